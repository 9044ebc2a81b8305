/- A row of conditions that the call itself makes. -/
import Derived.Test.YtabdgnigmlpeaaaGreatDoorTFitS
import Derived.OwnWalk
import Derived.Deep.AppendLies
import Derived.Laws.AppendOwnNone
import Derived.Test.YtabdgnigmlpeaaaGreatDoorTCForm
namespace Go.Proofs.YtabdgnigmlpeaaaGreatDoor
open Go.RowKit

/-- An element: a condition, and where its parts lie. -/
abbrev El := Cd × Option Addr × Nat
def flatE (es : List El) : List Value := es.flatMap fun e => [.int .i64 e.1.k, .int .i64 e.1.v, .int .i64 e.1.n, .slice e.2.1 e.1.ps.length e.2.2]
theorem flatE_append (a b : List El) : flatE (a ++ b) = flatE a ++ flatE b := by simp [flatE]
theorem flatE_cons (e : El) (es : List El) : flatE (e :: es) = .int .i64 e.1.k :: .int .i64 e.1.v :: .int .i64 e.1.n :: .slice e.2.1 e.1.ps.length e.2.2 :: flatE es := rfl
theorem flatE_length (es : List El) : (flatE es).length = es.length * 4 := by
  induction es with
  | nil => rfl
  | cons a l ih => rw [flatE_cons]; simp only [List.length_cons, ih]; omega
theorem flatE_get (es : List El) : ∀ (i : Nat) (h : i < es.length), (flatE es)[i * 4]? = some (.int .i64 es[i].1.k) ∧ (flatE es)[i * 4 + 1]? = some (.int .i64 es[i].1.v) ∧ (flatE es)[i * 4 + 2]? = some (.int .i64 es[i].1.n) ∧ (flatE es)[i * 4 + 3]? = some (.slice es[i].2.1 es[i].1.ps.length es[i].2.2) := by
  induction es with
  | nil => intro i h; simp at h
  | cons a l ih =>
    intro i h
    cases i with
    | zero => simp [flatE_cons]
    | succ i =>
      have := ih i (by simpa using h)
      rw [flatE_cons, show (i + 1) * 4 = i * 4 + 1 + 1 + 1 + 1 by omega]
      simp only [List.getElem?_cons_succ]
      simpa using this
theorem flatE_one' (es : List El) : ∀ u ∈ flatE es, u.oneCell' = true := by
  intro u hu
  unfold flatE at hu
  rw [List.mem_flatMap] at hu
  obtain ⟨e, _, he⟩ := hu
  simp only [List.mem_cons, List.not_mem_nil, or_false] at he
  rcases he with rfl | rfl | rfl | rfl <;> rfl
theorem Tryz.infoC : (Tryz.prog.info? 40).map (fun i => (i.zero, i.size, i.bytes)) = some (some (.agg #[.int .i64 0, .int .i64 0, .int .i64 0, .slice none 0 0]), 4, 48) := by kernel_rfl
/-- The row val is the call's own, from block B on, and holds es, whose parts lie in blocks of which Q holds; all these lie before B. -/
structure OwnC (w : World) (B : Nat) (Q : Nat → Prop) (val : Value) (es : List El) : Prop where
  own : w.ownsRow B 40 4 val es.length (flatE es)
  els : ∀ e ∈ es, CdIn w Q e.1 e.2.1 e.2.2
  nil : es = [] → val = .slice none 0 0
theorem OwnC.start (w : World) (B : Nat) (Q : Nat → Prop) : OwnC w B Q (.slice none 0 0) [] := ⟨World.ownsRow_nil w B _ _, by simp, fun _ => rfl⟩
theorem OwnC.lt {w : World} {B : Nat} {Q : Nat → Prop} {val : Value} {es : List El} (h : OwnC w B Q val es) : ∀ k, val.ownBlock = some k → B ≤ k ∧ k < w.heap.size := h.own.lt
theorem OwnC.bel {w w' : World} {B : Nat} {Q : Nat → Prop} {val : Value} {es : List El} (h : OwnC w B Q val es) (hb : Below w.heap.size w w') : OwnC w' B Q val es := by
  refine ⟨⟨h.own.1, h.own.2.imp id ?_⟩, fun e he => (h.els e he).bel hb, h.nil⟩
  rintro ⟨g, cap, cur, rfl, a, b, c⟩
  exact ⟨g, cap, cur, rfl, a, by rw [hb.block g ((Array.getElem?_eq_some_iff.1 b).1)]; exact b, c⟩
theorem infoCd_some : ∃ i, Tryz.prog.info? 40 = some i := by
  obtain ⟨i0, hi, _⟩ := info_parts Tryz.infoC
  exact ⟨i0, hi⟩
/-- append(l, x..): the elements x lie anywhere. -/
theorem wpList_pushC {ops : Array Oper} {rest : List Oper} {o : Oper} {a : Act} {w : World} {K : Exit → Act → World → Prop} (hgd : o.guard = none) (s x : Operand)
    (ho : o.op = .call { callee := .builtin .append, args := #[s, x], argTypes := #[38, 38] })
    (B : Nat) (Q : Nat → Prop) (hQ : ∀ b, Q b → b < B) (val : Value) (es : List El) (hown : OwnC w B Q val es) (hs : a.eval s = val) (ns : List El) (ad : Addr) (m c : Nat) (hm : ns.length = m) (hm0 : 0 < m) (hx : a.eval x = .slice (some ad) m c)
    (hcells : ∀ j u, (flatE ns)[j]? = some u → w.cell? (ad.add j) = some u) (hels : ∀ e ∈ ns, CdIn w Q e.1 e.2.1 e.2.2) (hn : es.length + m ≤ 1000000) (hB : B ≤ w.heap.size)
    (h : ∀ g cap' w', OwnC w' B Q (.slice (some ⟨g, 0, none⟩) (es.length + m) cap') (es ++ ns) → w.grownBy w' val.ownBlock → (val.ownBlock = some g ∨ g = w.heap.size) → wpList Tryz.prog ops K rest (a.put o.dst (.slice (some ⟨g, 0, none⟩) (es.length + m) cap')) w') :
    wpList Tryz.prog ops K (o :: rest) a w := by
  obtain ⟨i0, hi, hz0, hz1, hz2⟩ := info_parts Tryz.infoC
  subst hm
  refine wpList_append_lies _ hgd s x 38 ho B 40 i0 _ 4 48 Tryz.underlying38 hi hz0 hz1 hz2 rfl (by decide) val es.length (flatE es) hs hown.own ad ns.length c (flatE ns) hx (flatE_length ns) hcells (flatE_one' ns) hm0 (by unfold maxLen; omega) (by omega) hB w.heap.size rfl ?_
  intro g cap' w' hown' hg hat hlt
  have key : ∀ e : El, CdIn w Q e.1 e.2.1 e.2.2 → CdIn w' Q e.1 e.2.1 e.2.2 := fun e he =>
    he.keep2 hg.size fun b hb hbl => ⟨hb, hg.block b hbl fun e2 => by
      have := (hown.lt b e2.symm).1
      have := hQ b hb
      omega⟩
  refine h g cap' w' ⟨by rw [List.length_append, flatE_append]; exact hown', fun e he => ?_, fun e => ?_⟩ hg hat
  · rcases List.mem_append.1 he with he | he
    · exact key e (hown.els e he)
    · exact key e (hels e he)
  · have := congrArg List.length e
    rw [List.length_append, List.length_nil] at this
    omega
/-- What the row is as a value. -/
theorem OwnC.reads {w : World} {B : Nat} {Q : Nat → Prop} {val : Value} {es : List El} (h : OwnC w B Q val es) (hl : es.length ≤ 1000000) :
    ∃ p cap, val = .slice p es.length cap ∧ CdIn w (fun b => Q b ∨ B ≤ b) (.mk 0 0 0 (es.map (·.1))) p cap ∧ (∀ a, p = some a → ∀ j u, (flatE es)[j]? = some u → w.cell? (a.add j) = some u) ∧ (es = [] → p = none ∧ cap = 0) := by
  rcases h.own.2 with ⟨hv, hn0⟩ | ⟨g, cap, cur, hv, hB, hg, hc, hm, hsz, ht⟩
  · obtain rfl : es = [] := List.length_eq_zero_iff.1 hn0
    exact ⟨none, 0, hv, CdIn.leaf, (fun a h => by cases h), fun _ => ⟨rfl, rfl⟩⟩
  · have key : ∀ j u, (flatE es)[j]? = some u → w.cell? ⟨g, j, none⟩ = some u := by
      intro j u hu
      rw [cell_of_row w g j cur _ (0, 0) hg]
      rw [← ht, List.getElem?_take] at hu
      split at hu
      · simpa using hu
      · cases hu
    refine ⟨_, cap, hv, .mk 0 0 0 _ _ cap g 0 (fun i => ((es[i]?).map (·.2.1)).getD none) (fun i => ((es[i]?).map (·.2.2)).getD 0) (by rw [List.length_map]; omega) (by rw [List.length_map]; exact hc) (by unfold maxLen at hm; omega) (fun h => by cases h) (fun _ => ⟨rfl, .inr hB, (Array.getElem?_eq_some_iff.1 hg).1⟩) (fun i hi => ?_) (fun i hi => ?_), fun a ha j u hu => ?_, fun e => ?_⟩
    · rw [List.length_map] at hi
      obtain ⟨f0, f1, f2, f3⟩ := flatE_get es i hi
      rw [Nat.zero_add, List.getElem?_eq_getElem hi]
      simp only [List.getElem_map]
      exact ⟨key _ _ f0, key _ _ f1, key _ _ f2, key _ _ f3⟩
    · rw [List.length_map] at hi
      rw [List.getElem?_eq_getElem hi]
      simp only [List.getElem_map]
      exact (h.els es[i] (List.getElem_mem hi)).mono fun b hb => .inl hb
    · cases ha
      have e : (⟨g, 0, none⟩ : Addr).add j = ⟨g, j, none⟩ := by cases j <;> simp [Addr.add]
      rw [e]
      exact key j u hu
    · rw [h.nil e] at hv
      cases hv
theorem OwnC.grown {w w' : World} {v : Value} {B : Nat} {Q : Nat → Prop} {es : List El} {w0 : World} (hb : Below w0.heap.size w0 w) (h : OwnC w B Q v es) (hB : w0.heap.size ≤ B) (hg : w.grownBy w' v.ownBlock) : Below w0.heap.size w0 w' :=
  below_grown hb hg fun k hk => Nat.le_trans hB (h.lt k hk).1
end Go.Proofs.YtabdgnigmlpeaaaGreatDoor
