/- Steps in memory; a row of steps that the call itself makes. -/
import Derived.Test.YtdhdjfkknfbmhaaGreatDoorSUnit
namespace Go.Proofs.YtdhdjfkknfbmhaaGreatDoor
open Go.RowKit

def St.k : St → Int | .mk k _ _ _ _ => k
def St.b : St → Int | .mk _ b _ _ _ => b
def St.c : St → Cd | .mk _ _ c _ _ => c
def St.th : St → List St | .mk _ _ _ t _ => t
def St.el : St → List St | .mk _ _ _ _ e => e
/-- Where the lists of a step lie, and their room: those of the condition, of Then and of Else. -/
structure Loc where
  pc : Option Addr
  cc : Nat
  pt : Option Addr
  ct : Nat
  pe : Option Addr
  ce : Nat
def cellsS (s : St) (x : Loc) : List Value := [.int .i64 s.k, .int .i64 s.b, .int .i64 s.c.k, .int .i64 s.c.v, .int .i64 s.c.n, .slice x.pc s.c.ps.length x.cc, .slice x.pt s.th.length x.ct, .slice x.pe s.el.length x.ce]
/-- The steps are the slice at p with room cap, in blocks of which Q holds. -/
inductive SsIn (w : World) (Q : Nat → Prop) : List St → Option Addr → Nat → Prop
  | mk (ss : List St) (p : Option Addr) (cap b off : Nat) (X : Nat → Loc)
      (hl : ss.length ≤ 3000000000000) (hc : ss.length ≤ cap) (hc2 : cap ≤ 9223372036854775807) (hp : p = none → cap = 0)
      (hb : ss ≠ [] → p = some ⟨b, off, none⟩ ∧ Q b ∧ b < w.heap.size)
      (hcell : ∀ i (h : i < ss.length) j u, (cellsS ss[i] (X i))[j]? = some u → w.cell? ⟨b, off + i * 8 + j, none⟩ = some u)
      (hcd : ∀ i (h : i < ss.length), CdIn w Q ss[i].c (X i).pc (X i).cc)
      (hth : ∀ i (h : i < ss.length), SsIn w Q ss[i].th (X i).pt (X i).ct)
      (hel : ∀ i (h : i < ss.length), SsIn w Q ss[i].el (X i).pe (X i).ce) : SsIn w Q ss p cap
theorem SsIn.keep2 {w w' : World} {Q Q' : Nat → Prop} {ss : List St} {p : Option Addr} {cap : Nat} (h : SsIn w Q ss p cap) (hs : w.heap.size ≤ w'.heap.size) (hk : ∀ b, Q b → b < w.heap.size → Q' b ∧ w'.heap[b]? = w.heap[b]?) : SsIn w' Q' ss p cap := by
  induction h with
  | mk ss p cap b off X hl hc hc2 hp hb hcell hcd hth hel ih1 ih2 =>
    refine .mk ss p cap b off X hl hc hc2 hp (fun hne => ⟨(hb hne).1, (hk b (hb hne).2.1 (hb hne).2.2).1, Nat.lt_of_lt_of_le (hb hne).2.2 hs⟩) (fun i hi j u hu => ?_) (fun i hi => (hcd i hi).keep2 hs hk) ih1 ih2
    obtain ⟨_, h1, h2⟩ := hb (by rintro rfl; simp at hi)
    exact (World.cell?_of_block (a := ⟨b, _, none⟩) (hk b h1 h2).2).trans (hcell i hi j u hu)
theorem SsIn.keep {w w' : World} {Q : Nat → Prop} {ss : List St} {p : Option Addr} {cap : Nat} (h : SsIn w Q ss p cap) (hs : w.heap.size ≤ w'.heap.size) (hk : ∀ b, Q b → b < w.heap.size → w'.heap[b]? = w.heap[b]?) : SsIn w' Q ss p cap := h.keep2 hs fun b h1 h2 => ⟨h1, hk b h1 h2⟩
theorem SsIn.mono {w : World} {Q Q' : Nat → Prop} {ss : List St} {p : Option Addr} {cap : Nat} (h : SsIn w Q ss p cap) (hq : ∀ b, Q b → Q' b) : SsIn w Q' ss p cap := h.keep2 (Nat.le_refl _) fun b hb _ => ⟨hq b hb, rfl⟩
theorem SsIn.bel {w w' : World} {Q : Nat → Prop} {ss : List St} {p : Option Addr} {cap : Nat} (h : SsIn w Q ss p cap) (hb : Below w.heap.size w w') : SsIn w' Q ss p cap := h.keep hb.size fun b _ hl => hb.block b hl
theorem SsIn.nil {w : World} {Q : Nat → Prop} : SsIn w Q [] none 0 :=
  .mk [] none 0 0 0 (fun _ => ⟨none, 0, none, 0, none, 0⟩) (by simp) (by simp) (by simp) (fun _ => rfl) (fun h => absurd rfl h) (fun i h => by simp at h) (fun i h => by simp at h) (fun i h => by simp at h) (fun i h => by simp at h)
/-- What a step refers to lies in memory. -/
structure StIn (w : World) (Q : Nat → Prop) (s : St) (x : Loc) : Prop where
  cd : CdIn w Q s.c x.pc x.cc
  th : SsIn w Q s.th x.pt x.ct
  el : SsIn w Q s.el x.pe x.ce
theorem StIn.keep2 {w w' : World} {Q Q' : Nat → Prop} {s : St} {x : Loc} (h : StIn w Q s x) (hs : w.heap.size ≤ w'.heap.size) (hk : ∀ b, Q b → b < w.heap.size → Q' b ∧ w'.heap[b]? = w.heap[b]?) : StIn w' Q' s x :=
  ⟨h.cd.keep2 hs hk, h.th.keep2 hs hk, h.el.keep2 hs hk⟩

/-- An element: a step, and where its lists lie. -/
abbrev ElS := St × Loc
def flatS (es : List ElS) : List Value := es.flatMap fun e => cellsS e.1 e.2
theorem flatS_append (a b : List ElS) : flatS (a ++ b) = flatS a ++ flatS b := by simp [flatS]
theorem flatS_cons (e : ElS) (es : List ElS) : flatS (e :: es) = cellsS e.1 e.2 ++ flatS es := rfl
theorem flatS_length (es : List ElS) : (flatS es).length = es.length * 8 := by
  induction es with
  | nil => rfl
  | cons a l ih => rw [flatS_cons, List.length_append, ih, List.length_cons]; simp only [cellsS, List.length_cons, List.length_nil]; omega
theorem flatS_get (es : List ElS) : ∀ (i : Nat) (h : i < es.length) (j : Nat) (u : Value), (cellsS es[i].1 es[i].2)[j]? = some u → (flatS es)[i * 8 + j]? = some u := by
  induction es with
  | nil => intro i h; simp at h
  | cons a l ih =>
    intro i h j u hu
    have hj : j < 8 := by
      have := (List.getElem?_eq_some_iff.1 hu).1
      simpa [cellsS] using this
    have hlen : (cellsS a.1 a.2).length = 8 := rfl
    rw [flatS_cons]
    cases i with
    | zero =>
      rw [List.getElem?_append_left (by rw [hlen]; omega), Nat.zero_mul, Nat.zero_add]
      exact hu
    | succ i =>
      rw [List.getElem?_append_right (by rw [hlen]; omega), hlen, show (i + 1) * 8 + j - 8 = i * 8 + j by omega]
      exact ih i (by simpa using h) j u hu

/-- The row val is the call's own, from block B on, and holds es, whose lists lie in the call's own blocks, beside the row. -/
structure OwnS (w : World) (B : Nat) (val : Value) (es : List ElS) : Prop where
  own : w.ownsRow B 73 8 val es.length (flatS es)
  els : ∀ e ∈ es, StIn w (fun b => B ≤ b ∧ some b ≠ val.ownBlock) e.1 e.2
theorem OwnS.nil (w : World) (B : Nat) : OwnS w B (.slice none 0 0) [] := ⟨World.ownsRow_nil w B _ _, by simp⟩
theorem OwnS.lt {w : World} {B : Nat} {val : Value} {es : List ElS} (h : OwnS w B val es) : ∀ k, val.ownBlock = some k → B ≤ k ∧ k < w.heap.size := h.own.lt
/-- Any step that leaves the blocks from B on, but one, as they are. -/
theorem OwnS.kept {w w' : World} {B ib : Nat} {val : Value} {es : List ElS} (h : OwnS w B val es) (hk : Kp w w' ib) (hib : ib < B) : OwnS w' B val es := by
  refine ⟨⟨h.own.1, h.own.2.imp id ?_⟩, fun e he => (h.els e he).keep2 hk.size fun b hb hbl => ⟨hb, hk.block b hbl (by omega)⟩⟩
  rintro ⟨g, cap, cur, rfl, a, b, c⟩
  exact ⟨g, cap, cur, rfl, a, by rw [hk.block g ((Array.getElem?_eq_some_iff.1 b).1) (by omega)]; exact b, c⟩
/-- What the row is as a value. -/
theorem OwnS.reads {w : World} {B : Nat} {val : Value} {es : List ElS} (h : OwnS w B val es) (hl : es.length ≤ 1000000) :
    ∃ p cap, val = .slice p es.length cap ∧ SsIn w (B ≤ ·) (es.map (·.1)) p cap := by
  rcases h.own.2 with ⟨hv, hn0⟩ | ⟨g, cap, cur, hv, hB, hg, hc, hm, hsz, ht⟩
  · obtain rfl : es = [] := List.length_eq_zero_iff.1 hn0
    exact ⟨none, 0, hv, SsIn.nil⟩
  · have hh : ∀ i, i < (es.map (·.1)).length → i < es.length := fun i hi => by rwa [List.length_map] at hi
    have hx : ∀ i (hi : i < es.length), ((es[i]?).map (·.2)).getD ⟨none, 0, none, 0, none, 0⟩ = es[i].2 := fun i hi => by rw [List.getElem?_eq_getElem hi]; rfl
    refine ⟨_, cap, hv, .mk _ _ cap g 0 (fun i => ((es[i]?).map (·.2)).getD ⟨none, 0, none, 0, none, 0⟩) (by rw [List.length_map]; omega) (by rw [List.length_map]; exact hc) (by unfold maxLen at hm; omega) (fun h => by cases h) (fun _ => ⟨rfl, hB, (Array.getElem?_eq_some_iff.1 hg).1⟩) (fun i hi j u hu => ?_) (fun i hi => ?_) (fun i hi => ?_) (fun i hi => ?_)⟩
    · have key : ∀ j u, (flatS es)[j]? = some u → w.cell? ⟨g, j, none⟩ = some u := by
        intro j u hu
        rw [cell_of_row w g j cur _ (0, 0) hg]
        rw [← ht, List.getElem?_take] at hu
        split at hu
        · simpa using hu
        · cases hu
      rw [Nat.zero_add]
      rw [hx i (hh i hi)] at hu
      simp only [List.getElem_map] at hu
      exact key _ _ (flatS_get es i (hh i hi) j u hu)
    · rw [hx i (hh i hi)]
      simp only [List.getElem_map]
      exact ((h.els (es[i]'(hh i hi)) (List.getElem_mem (hh i hi))).keep2 (Nat.le_refl _) fun b hb _ => ⟨hb.1, rfl⟩).cd
    · rw [hx i (hh i hi)]
      simp only [List.getElem_map]
      exact ((h.els (es[i]'(hh i hi)) (List.getElem_mem (hh i hi))).keep2 (Nat.le_refl _) fun b hb _ => ⟨hb.1, rfl⟩).th
    · rw [hx i (hh i hi)]
      simp only [List.getElem_map]
      exact ((h.els (es[i]'(hh i hi)) (List.getElem_mem (hh i hi))).keep2 (Nat.le_refl _) fun b hb _ => ⟨hb.1, rfl⟩).el
theorem Tryz.infoS : (Tryz.prog.info? 73).map (fun i => (i.zero, i.size, i.bytes)) = some (some (.agg #[.int .i64 0, .int .i64 0, .int .i64 0, .int .i64 0, .int .i64 0, .slice none 0 0, .slice none 0 0, .slice none 0 0]), 8, 112) := by kernel_rfl

/-- append(l, s): the step lies in a new block of its own first. -/
theorem wpList_pushS {ops : Array Oper} {rest : List Oper} {o : Oper} {a : Act} {w : World} {Q : Exit → Act → World → Prop} (hgd : o.guard = none) (s x : Operand)
    (ho : o.op = .call { callee := .builtin .append, args := #[s, x], argTypes := #[38, 38] })
    (B : Nat) (val : Value) (es : List ElS) (hown : OwnS w B val es) (hs : a.eval s = val) (v : St) (y : Loc) (c : Nat) (hx : a.eval x = .slice (some ⟨w.heap.size, 0, none⟩) 1 c)
    (hv : StIn w (fun b => B ≤ b ∧ some b ≠ val.ownBlock) v y) (hn : es.length ≤ 1000000000000) (hB : B ≤ w.heap.size)
    (h : ∀ g cap' w', OwnS w' B (.slice (some ⟨g, 0, none⟩) (es.length + 1) cap') (es ++ [(v, y)]) → w.grownBy w' val.ownBlock → wpList Tryz.prog ops Q rest (a.put o.dst (.slice (some ⟨g, 0, none⟩) (es.length + 1) cap')) w') :
    wpList Tryz.prog ops Q (o :: rest) a (w.alloc (.cells (cellsS v y).toArray 73)) := by
  obtain ⟨i0, hi, hz0, hz1, hz2⟩ := info_parts Tryz.infoS
  have hcells : ∀ j u, (cellsS v y)[j]? = some u → (w.alloc (.cells (cellsS v y).toArray 73)).cell? ((⟨w.heap.size, 0, none⟩ : Addr).add j) = some u := by
    intro j u hj
    have hj8 : j < 8 := by have := (List.getElem?_eq_some_iff.1 hj).1; simpa [cellsS] using this
    match j, hj8, hj with
    | 0, _, hj => simp [cellsS] at hj; subst hj; simp [Addr.add, cellsS]
    | 1, _, hj => simp [cellsS] at hj; subst hj; simp [Addr.add, cellsS]
    | 2, _, hj => simp [cellsS] at hj; subst hj; simp [Addr.add, cellsS]
    | 3, _, hj => simp [cellsS] at hj; subst hj; simp [Addr.add, cellsS]
    | 4, _, hj => simp [cellsS] at hj; subst hj; simp [Addr.add, cellsS]
    | 5, _, hj => simp [cellsS] at hj; subst hj; simp [Addr.add, cellsS]
    | 6, _, hj => simp [cellsS] at hj; subst hj; simp [Addr.add, cellsS]
    | 7, _, hj => simp [cellsS] at hj; subst hj; simp [Addr.add, cellsS]
  refine wpList_append_lies _ hgd s x 38 ho B 73 i0 _ 8 112 Tryz.underlying38 hi hz0 hz1 hz2 rfl (by decide) val es.length (flatS es) hs (hown.own.alloc _) ⟨w.heap.size, 0, none⟩ 1 c _ hx rfl hcells (by simp [Value.oneCell', cellsS]) (by decide) (by unfold maxLen; omega) (by omega) (by simp; omega) (w.heap.size + 1) (by simp) ?_
  intro g cap' w' hown' hg hat hlt
  have hg' : w.grownBy w' val.ownBlock := by
    refine ⟨hg.os, hg.tape, hg.output, by have := hg.size; simp at this; omega, fun k hk hne => ?_⟩
    exact (hg.block k (by simp; omega) hne).trans (by rw [((Below.refl w.heap.size w).alloc (Nat.le_refl _) _).block k hk])
  have key : ∀ e : ElS, StIn w (fun b => B ≤ b ∧ some b ≠ val.ownBlock) e.1 e.2 → StIn w' (fun b => B ≤ b ∧ some b ≠ (Value.slice (some ⟨g, 0, none⟩) (es.length + 1) cap').ownBlock) e.1 e.2 := fun e he =>
    he.keep2 hg'.size fun b hb hbl => ⟨⟨hb.1, fun e2 => by
      have e3 : b = g := by simpa [Value.ownBlock] using e2
      subst e3
      rcases hat with e4 | e4
      · exact hb.2 e4.symm
      · omega⟩, hg'.block b hbl hb.2⟩
  refine h g cap' w' ⟨by rw [List.length_append, flatS_append]; exact hown', fun e he => ?_⟩ hg'
  rcases List.mem_append.1 he with he | he
  · exact key e (hown.els e he)
  · obtain rfl := List.mem_singleton.1 he
    exact key _ hv
end Go.Proofs.YtdhdjfkknfbmhaaGreatDoor
