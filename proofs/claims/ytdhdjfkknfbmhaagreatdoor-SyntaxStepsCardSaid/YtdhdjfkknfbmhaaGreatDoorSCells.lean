/- A block of the call's own, cell by cell. -/
import Derived.Test.YtdhdjfkknfbmhaaGreatDoorSStepM
namespace Go.Proofs.YtdhdjfkknfbmhaaGreatDoor
open Go.RowKit

theorem Kp.own (w : World) (b o : Nat) (v : Value) : Kp w (w.setCell ⟨b, o, none⟩ v) b := ⟨rfl, rfl, rfl, by simp, fun _ _ hne => heap_setCell_other _ _ _ _ hne⟩
theorem Kp.trans2 {w w2 w3 : World} {pb b : Nat} (h : Kp w w2 pb) (k : Kp w2 w3 b) (hb : w.heap.size ≤ b) : Kp w w3 pb :=
  ⟨k.os.trans h.os, k.tape.trans h.tape, k.output.trans h.output, Nat.le_trans h.size k.size, fun j hj hne => (k.block j (Nat.lt_of_lt_of_le hj h.size) (by omega)).trans (h.block j hj hne)⟩
/-- The block b holds these cells, and may be written. -/
structure Cells (w : World) (b : Nat) (l : List Value) : Prop where
  lt : b < w.heap.size
  c : ∀ j u, l[j]? = some u → w.cell? ⟨b, j, none⟩ = some u
  fz : ∀ o, w.frozen? ⟨b, o, none⟩ = false
theorem Cells.kp {w w' : World} {b pb : Nat} {l : List Value} (h : Cells w b l) (hk : Kp w w' pb) (hne : b ≠ pb) : Cells w' b l := by
  have hh := hk.block b h.lt hne
  exact ⟨Nat.lt_of_lt_of_le h.lt hk.size, fun j u hj => (World.cell?_of_block (a := ⟨b, j, none⟩) hh).trans (h.c j u hj), fun o => (World.frozen?_of_block (a := ⟨b, o, none⟩) hh).trans (h.fz o)⟩
theorem Cells.bel {w w' : World} {b : Nat} {l : List Value} (h : Cells w b l) (hb : Below w.heap.size w w') : Cells w' b l := h.kp (Kp.ofBelow (sb := b + 1) hb (Nat.le_refl _)) (by omega)
theorem Cells.set {w : World} {b : Nat} {l : List Value} (h : Cells w b l) (o : Nat) (v : Value) : Cells (w.setCell ⟨b, o, none⟩ v) b (l.set o v) := by
  refine ⟨by simpa using h.lt, fun j u hj => ?_, fun p => by simp only [World.frozen?_setCell]; exact h.fz p⟩
  by_cases hjo : o = j
  · subst hjo
    rw [List.getElem?_set_self'] at hj
    cases hl : l[o]? with
    | none => rw [hl] at hj; cases hj
    | some u0 =>
      rw [hl] at hj
      cases hj
      exact World.cell?_setCell_same _ _ _ (h.c o u0 hl)
  · rw [List.getElem?_set_ne hjo] at hj
    rw [World.cell?_setCell_other _ _ _ _ (by simp)]
    exact h.c j u hj
def putL (w : World) (b : Nat) : Nat → List Value → World
  | _, [] => w
  | o, v :: r => putL (w.setCell ⟨b, o, none⟩ v) b (o + 1) r
theorem putL_kp (b : Nat) : ∀ (l : List Value) (o : Nat) (w : World), Kp w (putL w b o l) b
  | [], _, w => Kp.refl w b
  | v :: r, o, w => (Kp.own w b o v).trans (putL_kp b r (o + 1) _)
theorem putL_size (b : Nat) : ∀ (l : List Value) (o : Nat) (w : World), (putL w b o l).heap.size = w.heap.size
  | [], _, _ => rfl
  | v :: r, o, w => (putL_size b r (o + 1) _).trans (by simp)
theorem putL_cells' (b : Nat) : ∀ (l2 l pre : List Value) (w : World), l.length = l2.length → Cells w b (pre ++ l) → Cells (putL w b pre.length l2) b (pre ++ l2)
  | [], l, pre, w, hl, h => by
    obtain rfl : l = [] := List.eq_nil_of_length_eq_zero hl
    exact h
  | v :: r, [], pre, w, hl, h => by cases hl
  | v :: r, u :: l, pre, w, hl, h => by
    have h1 := h.set pre.length v
    rw [List.set_append_right _ _ (Nat.le_refl _), Nat.sub_self, List.set_cons_zero] at h1
    have h2 := putL_cells' b r l (pre ++ [v]) _ (by simpa using hl) (by simpa using h1)
    rw [List.length_append, List.append_assoc] at h2
    exact h2
theorem putL_cells {w : World} {b : Nat} {l : List Value} (h : Cells w b l) (l2 : List Value) (hl : l.length = l2.length) : Cells (putL w b 0 l2) b l2 := putL_cells' b l2 l [] w hl h
theorem Cells.new (w : World) (cs : List Value) (t : TypeId) (hf : ∀ o, (w.alloc (.cells cs.toArray t)).frozen? ⟨w.heap.size, o, none⟩ = false) : Cells (w.alloc (.cells cs.toArray t)) w.heap.size cs := by
  refine ⟨by simp, fun j u hj => ?_, hf⟩
  have := cell_of_row (w.alloc (.cells cs.toArray t)) w.heap.size j cs.toArray t (0, 0) (heap_alloc_new w _)
  rw [this]
  simpa using hj
theorem Cells.psr {w w' : World} {pb tb off cap b : Nat} {M : Nat → Value} {L : List Tk} {i : Nat} (h : Psr w pb tb off cap M L i) (hk : Kp w w' b) (h1 : pb ≠ b) (h2 : tb ≠ b) : Psr w' pb tb off cap M L i :=
  h.same hk.size (hk.block pb h.lt h1) (hk.block tb h.tlt h2)

def stZero : Obj := .cells (cellsS (.mk 0 0 .zero [] []) ⟨none, 0, none, 0, none, 0⟩).toArray 73
theorem stZero_new (w : World) : Cells (w.alloc stZero) w.heap.size (cellsS (.mk 0 0 .zero [] []) ⟨none, 0, none, 0, none, 0⟩) := Cells.new w _ _ fun o => by simp [go_sem]
/-- A step laid into the cell of the result. -/
theorem putS_end {w w2 : World} {pb tb off cap : Nat} {M : Nat → Value} {L : List Tk} {q : Nat} {s : St} {x : Loc} (hpb : pb < w.heap.size) (htb : tb < w.heap.size) (hp : Psr w2 pb tb off cap M L q) (hk : Kp w w2 pb)
    (hc : StIn w2 (fun b => w.heap.size + 1 ≤ b) s x) (l : List Value) : EndsS w pb tb off cap M L (.ok s (L.drop q)) (.returned (sV s x)) (putL w2 w.heap.size 0 l) := by
  have hK := putL_kp w.heap.size l 0 w2
  exact ⟨x, rfl, hc.keep2 hK.size fun b hb hl => ⟨by omega, hK.block b hl (by omega)⟩, hk.trans2 hK (Nat.le_refl _), q, rfl, Cells.psr hp hK (by omega) (by omega)⟩
end Go.Proofs.YtdhdjfkknfbmhaaGreatDoor
