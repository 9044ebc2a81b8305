/- A row of conditions that the call itself makes. -/
import Derived.Test.YtdhdjfkknfbmhaaGreatDoorSCmp
namespace Go.Proofs.YtdhdjfkknfbmhaaGreatDoor
open Go.RowKit

theorem CdIn.keep2 {w w' : World} {Q Q' : Nat → Prop} {c : Cd} {p : Option Addr} {cap : Nat} (h : CdIn w Q c p cap) (hs : w.heap.size ≤ w'.heap.size) (hk : ∀ b, Q b → b < w.heap.size → Q' b ∧ w'.heap[b]? = w.heap[b]?) : CdIn w' Q' c p cap := by
  induction h with
  | mk k v n ps p cap b off P C hl hc hc2 hp hb hcell hsub ih =>
    refine .mk k v n ps p cap b off P C hl hc hc2 hp (fun hne => ⟨(hb hne).1, (hk b (hb hne).2.1 (hb hne).2.2).1, Nat.lt_of_lt_of_le (hb hne).2.2 hs⟩) (fun i hi => ?_) ih
    obtain ⟨_, h1, h2⟩ := hb (by rintro rfl; simp at hi)
    have hh := fun o => World.cell?_of_block (a := ⟨b, o, none⟩) (hk b h1 h2).2
    obtain ⟨c1, c2, c3, c4⟩ := hcell i hi
    exact ⟨(hh _).trans c1, (hh _).trans c2, (hh _).trans c3, (hh _).trans c4⟩

/-- An element: a value, and where its list lies. -/
abbrev El := Cd × Option Addr × Nat
def flatE (es : List El) : List Value := es.flatMap fun e => [.int .i64 e.1.k, .int .i64 e.1.v, .int .i64 e.1.n, .slice e.2.1 e.1.ps.length e.2.2]
theorem flatE_append (a b : List El) : flatE (a ++ b) = flatE a ++ flatE b := by simp [flatE]
theorem flatE_one (e : El) : flatE [e] = [.int .i64 e.1.k, .int .i64 e.1.v, .int .i64 e.1.n, .slice e.2.1 e.1.ps.length e.2.2] := rfl
theorem flatE_cons (e : El) (es : List El) : flatE (e :: es) = .int .i64 e.1.k :: .int .i64 e.1.v :: .int .i64 e.1.n :: .slice e.2.1 e.1.ps.length e.2.2 :: flatE es := rfl
theorem flatE_length (es : List El) : (flatE es).length = es.length * 4 := by
  induction es with
  | nil => rfl
  | cons a l ih => rw [flatE_cons]; simp only [List.length_cons, ih]; omega
theorem flatE_get (es : List El) : ∀ (i : Nat) (h : i < es.length), (flatE es)[i * 4]? = some (.int .i64 es[i].1.k) ∧ (flatE es)[i * 4 + 1]? = some (.int .i64 es[i].1.v) ∧ (flatE es)[i * 4 + 2]? = some (.int .i64 es[i].1.n) ∧ (flatE es)[i * 4 + 3]? = some (.slice es[i].2.1 es[i].1.ps.length es[i].2.2) := by
  induction es with
  | nil => intro i h; simp at h
  | cons a l ih =>
    intro i h
    cases i with
    | zero => simp [flatE_cons]
    | succ i =>
      have := ih i (by simpa using h)
      rw [flatE_cons, show (i + 1) * 4 = i * 4 + 1 + 1 + 1 + 1 by omega]
      simp only [List.getElem?_cons_succ]
      simpa using this
theorem Tryz.infoC : (Tryz.prog.info? 49).map (fun i => (i.zero, i.size, i.bytes)) = some (some (.agg #[.int .i64 0, .int .i64 0, .int .i64 0, .slice none 0 0]), 4, 48) := by kernel_rfl

theorem four_cells (w : World) (a b s : Int) (sl : Value) : ∀ j u, ([.int .i64 a, .int .i64 b, .int .i64 s, sl] : List Value)[j]? = some u → (w.alloc (.cells #[.int .i64 a, .int .i64 b, .int .i64 s, sl] 49)).cell? ((⟨w.heap.size, 0, none⟩ : Addr).add j) = some u := by
  intro j u hj
  match j, hj with
  | 0, hj => simp at hj; subst hj; simp [Addr.add]
  | 1, hj => simp at hj; subst hj; simp [Addr.add]
  | 2, hj => simp at hj; subst hj; simp [Addr.add]
  | 3, hj => simp at hj; subst hj; simp [Addr.add]
  | j + 4, hj => simp at hj

/-- The row val is the call's own, from block B on, and holds es, whose values lie in the call's own blocks, beside the row. -/
structure OwnE (w : World) (B : Nat) (val : Value) (es : List El) : Prop where
  own : w.ownsRow B 49 4 val es.length (flatE es)
  els : ∀ e ∈ es, CdIn w (fun b => B ≤ b ∧ some b ≠ val.ownBlock) e.1 e.2.1 e.2.2
theorem OwnE.nil (w : World) (B : Nat) : OwnE w B (.slice none 0 0) [] := ⟨World.ownsRow_nil w B _ _, by simp⟩

/-- append(l, v): the value lies in a new block of its own first. -/
theorem wpList_pushV {ops : Array Oper} {rest : List Oper} {o : Oper} {a : Act} {w : World} {Q : Exit → Act → World → Prop} (hgd : o.guard = none) (s x : Operand)
    (ho : o.op = .call { callee := .builtin .append, args := #[s, x], argTypes := #[47, 47] })
    (B : Nat) (val : Value) (es : List El) (hown : OwnE w B val es) (hs : a.eval s = val) (v : Cd) (p : Option Addr) (cap c : Nat) (hx : a.eval x = .slice (some ⟨w.heap.size, 0, none⟩) 1 c)
    (hv : CdIn w (fun b => B ≤ b ∧ some b ≠ val.ownBlock) v p cap) (hn : es.length ≤ 2000000000000) (hB : B ≤ w.heap.size)
    (h : ∀ g cap' w', OwnE w' B (.slice (some ⟨g, 0, none⟩) (es.length + 1) cap') (es ++ [(v, p, cap)]) → w.grownBy w' val.ownBlock → wpList Tryz.prog ops Q rest (a.put o.dst (.slice (some ⟨g, 0, none⟩) (es.length + 1) cap')) w') :
    wpList Tryz.prog ops Q (o :: rest) a (w.alloc (.cells #[.int .i64 v.k, .int .i64 v.v, .int .i64 v.n, .slice p v.ps.length cap] 49)) := by
  obtain ⟨i0, hi, hz0, hz1, hz2⟩ := info_parts Tryz.infoC
  refine wpList_append_lies _ hgd s x 47 ho B 49 i0 _ 4 48 Tryz.underlying47 hi hz0 hz1 hz2 rfl (by decide) val es.length (flatE es) hs (hown.own.alloc _) ⟨w.heap.size, 0, none⟩ 1 c _ hx rfl (four_cells w _ _ _ _) (by simp [Value.oneCell']) (by decide) (by unfold maxLen; omega) (by omega) (by simp; omega) (w.heap.size + 1) (by simp) ?_
  intro g cap' w' hown' hg hat hlt
  have hg' : w.grownBy w' val.ownBlock := by
    refine ⟨hg.os, hg.tape, hg.output, by have := hg.size; simp at this; omega, fun k hk hne => ?_⟩
    exact (hg.block k (by simp; omega) hne).trans (by rw [((Below.refl w.heap.size w).alloc (Nat.le_refl _) _).block k hk])
  have key : ∀ e : El, CdIn w (fun b => B ≤ b ∧ some b ≠ val.ownBlock) e.1 e.2.1 e.2.2 → CdIn w' (fun b => B ≤ b ∧ some b ≠ (Value.slice (some ⟨g, 0, none⟩) (es.length + 1) cap').ownBlock) e.1 e.2.1 e.2.2 := fun e he =>
    he.keep2 hg'.size fun b hb hbl => ⟨⟨hb.1, fun e2 => by
      have e3 : b = g := by simpa [Value.ownBlock] using e2
      subst e3
      rcases hat with e4 | e4
      · exact hb.2 e4.symm
      · omega⟩, hg'.block b hbl hb.2⟩
  refine h g cap' w' ⟨by rw [List.length_append, flatE_append]; exact hown', fun e he => ?_⟩ hg'
  rcases List.mem_append.1 he with he | he
  · exact key e (hown.els e he)
  · obtain rfl := List.mem_singleton.1 he
    exact key _ hv

/-- Any step that leaves the blocks from B on, but one, as they are. -/
theorem OwnE.kept {w w' : World} {B ib : Nat} {val : Value} {es : List El} (h : OwnE w B val es) (hk : Kp w w' ib) (hib : ib < B) : OwnE w' B val es := by
  refine ⟨⟨h.own.1, h.own.2.imp id ?_⟩, fun e he => (h.els e he).keep2 hk.size fun b hb hbl => ⟨hb, hk.block b hbl (by omega)⟩⟩
  rintro ⟨g, cap, cur, rfl, a, b, c⟩
  exact ⟨g, cap, cur, rfl, a, by rw [hk.block g ((Array.getElem?_eq_some_iff.1 b).1) (by omega)]; exact b, c⟩
theorem OwnE.lt {w : World} {B : Nat} {val : Value} {es : List El} (h : OwnE w B val es) : ∀ k, val.ownBlock = some k → B ≤ k ∧ k < w.heap.size := h.own.lt

/-- What the row is as a value. -/
theorem OwnE.reads {w : World} {B : Nat} {val : Value} {es : List El} (h : OwnE w B val es) (hl : es.length ≤ 1000000) (k v n : Int) :
    ∃ p cap, val = .slice p es.length cap ∧ CdIn w (B ≤ ·) (.mk k v n (es.map (·.1))) p cap := by
  rcases h.own.2 with ⟨hv, hn0⟩ | ⟨g, cap, cur, hv, hB, hg, hc, hm, hsz, ht⟩
  · obtain rfl : es = [] := List.length_eq_zero_iff.1 hn0
    exact ⟨none, 0, hv, CdIn.leaf⟩
  · refine ⟨_, cap, hv, .mk k v n _ _ cap g 0 (fun i => ((es[i]?).map (·.2.1)).getD none) (fun i => ((es[i]?).map (·.2.2)).getD 0) (by rw [List.length_map]; omega) (by rw [List.length_map]; exact hc) (by unfold maxLen at hm; omega) (fun h => by cases h) (fun _ => ⟨rfl, hB, (Array.getElem?_eq_some_iff.1 hg).1⟩) (fun i hi => ?_) (fun i hi => ?_)⟩
    · rw [List.length_map] at hi
      have key : ∀ j u, (flatE es)[j]? = some u → w.cell? ⟨g, j, none⟩ = some u := by
        intro j u hu
        rw [cell_of_row w g j cur _ (0, 0) hg]
        rw [← ht, List.getElem?_take] at hu
        split at hu
        · simpa using hu
        · cases hu
      obtain ⟨f0, f1, f2, f3⟩ := flatE_get es i hi
      rw [Nat.zero_add, List.getElem?_eq_getElem hi]
      simp only [List.getElem_map]
      exact ⟨key _ _ f0, key _ _ f1, key _ _ f2, key _ _ f3⟩
    · rw [List.length_map] at hi
      rw [List.getElem?_eq_getElem hi]
      simp only [List.getElem_map]
      exact (h.els es[i] (List.getElem_mem hi)).keep2 (Nat.le_refl _) fun b hb _ => ⟨hb.1, rfl⟩
end Go.Proofs.YtdhdjfkknfbmhaaGreatDoor
