/- The specification's reader: the elements of a list, one by one. -/
import Derived.Test.YtopkpdaingmmeaaVRdr4
import Derived.Test.YtopkpdaingmmeaaVDecode
import Derived.Deep.AppendLies
namespace Go.Proofs.Ytopkpdaingmmeaa
open Go.RowKit

/-- The reader at a depth. -/
def ReadR (d dd : Nat) : Prop := ∀ (w : World) (lo rb : Nat) (p : Option Addr) (cap : Nat) (bs : List UInt8) (at' : Nat), Rdr w lo rb p cap bs at' false →
  Calls Try.prog 36 #[.pointer (some ⟨rb, 0, none⟩), .int .i64 dd] w (RVal w lo rb p cap bs (rdV d (bs.drop at')))

theorem Rdr.upto {w w' : World} {lo rb : Nat} {p : Option Addr} {cap : Nat} {bs : List UInt8} {at' : Nat} {bad : Bool} (h : Rdr w lo rb p cap bs at' bad) (hsz : w.heap.size ≤ w'.heap.size) (hb : ∀ k, k ≤ rb → w'.heap[k]? = w.heap[k]?) : Rdr w' lo rb p cap bs at' bad := by
  obtain ⟨h1, h2, h3, h4, h5, h6, h7, h8, h9, h10, h11⟩ := h
  have hc := fun o => World.cell?_of_block (a := ⟨rb, o, none⟩) (hb rb (Nat.le_refl _))
  have hf := fun o => World.frozen?_of_block (a := ⟨rb, o, none⟩) (hb rb (Nat.le_refl _))
  exact ⟨h1, Nat.lt_of_lt_of_le h2 hsz, (hc 0).trans h3, (hc 1).trans h4, (hc 2).trans h5, (hf 1).trans h6, (hf 2).trans h7, h8, h9, h10, h11.keep fun k hk => hb k (by omega)⟩

/-- append(l, v): as a step of a region that draws its order; the row's own cell stands. -/
theorem step_pushV {ops : Array Oper} {o : Oper} {a : Act} {w : World} {K : Act → World → Prop} {Q : Exit → Act → World → Prop} {E : Prop} (hgd : o.guard = none) (s x : Operand)
    (ho : o.op = .call { callee := .builtin .append, args := #[s, x], argTypes := #[22, 22] })
    (B : Nat) (val : Value) (es : List El) (hown : OwnE w B val es) (hs : a.eval s = val) (v : V) (p : Option Addr) (cap c : Nat) (hx : a.eval x = .slice (some ⟨w.heap.size, 0, none⟩) 1 c)
    (hv : VIn w (fun b => B ≤ b ∧ some b ≠ val.ownBlock) v p cap) (hn : es.length ≤ 2000000000000) (hB : B ≤ w.heap.size)
    (h : ∀ g cap' w', OwnE w' B (.slice (some ⟨g, 0, none⟩) (es.length + 1) cap') (es ++ [(v, p, cap)]) → w.grownBy w' val.ownBlock → K (a.put o.dst (.slice (some ⟨g, 0, none⟩) (es.length + 1) cap')) w') :
    if Region.wanted o (yielded ops a.tmps) = true then Oper.wp Try.prog o a (w.alloc (.cells #[.int .i64 v.k, .int .i64 v.n, .string v.s, .slice p v.l.length cap] 24)) K Q else E := by
  obtain ⟨i0, hi, hz0, hz1, hz2⟩ := info_parts Try.infoV
  refine step_append_lies _ hgd s x 22 ho B 24 i0 _ 4 56 Try.underlying22 hi hz0 hz1 hz2 rfl (by decide) val es.length (flatE es) hs (hown.own.alloc _) ⟨w.heap.size, 0, none⟩ 1 c _ hx rfl (four_cells w _ _ _ _) (by simp [Value.oneCell']) (by decide) (by unfold maxLen; omega) (by omega) (by simp; omega) (w.heap.size + 1) (by simp) ?_
  intro g cap' w' hown' hg hat hlt
  have hg' : w.grownBy w' val.ownBlock := by
    refine ⟨hg.os, hg.tape, hg.output, by have := hg.size; simp at this; omega, fun k hk hne => ?_⟩
    exact (hg.block k (by simp; omega) hne).trans (by rw [((Below.refl w.heap.size w).alloc (Nat.le_refl _) _).block k hk])
  have key : ∀ e : El, VIn w (fun b => B ≤ b ∧ some b ≠ val.ownBlock) e.1 e.2.1 e.2.2 → VIn w' (fun b => B ≤ b ∧ some b ≠ (Value.slice (some ⟨g, 0, none⟩) (es.length + 1) cap').ownBlock) e.1 e.2.1 e.2.2 := fun e he =>
    he.keep hg'.size fun b hb hbl => ⟨⟨hb.1, fun e2 => by
      have e3 : b = g := by simpa [Value.ownBlock] using e2
      subst e3
      rcases hat with e4 | e4
      · exact hb.2 e4.symm
      · omega⟩, hg'.block b hbl hb.2⟩
  refine h g cap' w' ⟨by rw [List.length_append, flatE_append]; exact hown', fun e he => ?_⟩ hg'
  rcases List.mem_append.1 he with he | he
  · exact key e (hown.els e he)
  · obtain rfl := List.mem_singleton.1 he
    exact key _ hv

/-- What stands in the loop over the elements: the list's variable is block vb. -/
structure Els (w : World) (lo rb : Nat) (p : Option Addr) (cap : Nat) (bs : List UInt8) (vb : Nat) (val : Value) (es : List El) (at' : Nat) (bad : Bool) (wr : World) : Prop where
  rdr : Rdr wr lo rb p cap bs at' bad
  kept : Kept w wr rb none
  zb : Zb wr w.heap.size
  c0 : wr.cell? ⟨vb, 0, none⟩ = some (.int .i64 3)
  c1 : wr.cell? ⟨vb, 1, none⟩ = some (.int .i64 0)
  c2 : wr.cell? ⟨vb, 2, none⟩ = some (.string ⟨#[]⟩)
  c3 : wr.cell? ⟨vb, 3, none⟩ = some val
  fz : wr.frozen? ⟨vb, 3, none⟩ = false
  own : OwnE wr (vb + 1) val es
  lt : vb < wr.heap.size
  hz : w.heap.size < vb
  hrb : rb < w.heap.size

theorem Els.drew {w wr : World} {lo rb : Nat} {p : Option Addr} {cap : Nat} {bs : List UInt8} {vb : Nat} {val : Value} {es : List El} {at' : Nat} {bad : Bool} (h : Els w lo rb p cap bs vb val es at' bad wr) : Els w lo rb p cap bs vb val es at' bad wr.drew :=
  ⟨h.rdr.drew, h.kept.drew, h.zb, h.c0, h.c1, h.c2, h.c3, h.fz, ⟨h.own.own, fun e he => (h.own.els e he).keep (Nat.le_refl _) fun b hb _ => ⟨hb, rfl⟩⟩, h.lt, h.hz, h.hrb⟩

/-- The variable of the list is new. -/
theorem Els.start {w w2 : World} {lo rb : Nat} {p : Option Addr} {cap : Nat} {bs : List UInt8} {at' : Nat} {bad : Bool} (hr : Rdr w2 lo rb p cap bs at' bad) (hk : Kept w w2 rb none) (hz : Zb w2 w.heap.size) (hrb : rb < w.heap.size) :
    Els w lo rb p cap bs w2.heap.size (.slice none 0 0) [] at' bad (w2.alloc (.cells #[.int .i64 3, .int .i64 0, .string ⟨#[]⟩, .slice none 0 0] 24)) := by
  have hk2 := Kept.alloc w2 rb none (.cells #[.int .i64 3, .int .i64 0, .string ⟨#[]⟩, .slice none 0 0] 24)
  have hzl := hz.2.2
  refine ⟨hr.same hk2.size fun k hk => ?_, hk.trans hk2 (.inl rfl), hz.kept hk2 (Nat.ne_of_gt hrb), ?_, ?_, ?_, ?_, ?_, OwnE.nil _ _, by simp, hzl, hrb⟩
  · exact Below.heap_alloc w2 _ k hk
  all_goals simp [go_sem]

/-- An element has been read. -/
theorem Els.call {w wr w' : World} {lo rb : Nat} {p : Option Addr} {cap : Nat} {bs : List UInt8} {vb : Nat} {val : Value} {es : List El} {at' at2 : Nat} {bad bad2 : Bool} (h : Els w lo rb p cap bs vb val es at' bad wr) (hk : Kept wr w' rb none) (hr : Rdr w' lo rb p cap bs at2 bad2) :
    Els w lo rb p cap bs vb val es at2 bad2 w' := by
  obtain ⟨_, h2, h3, h4, h5, h6, h7, h8, h9, h10, h11, h12⟩ := h
  have hbl := hk.block vb h10 (by omega) (by simp)
  have hc := fun o => World.cell?_of_block (a := ⟨vb, o, none⟩) hbl
  have hf := fun o => World.frozen?_of_block (a := ⟨vb, o, none⟩) hbl
  exact ⟨hr, h2.trans hk (.inl rfl), h3.kept hk (Nat.ne_of_gt h12), (hc 0).trans h4, (hc 1).trans h5, (hc 2).trans h6, (hc 3).trans h7, (hf 3).trans h8, h9.kept hk (by omega), Nat.lt_of_lt_of_le h10 hk.size, h11, h12⟩

/-- The element that has been read lies beside the row. -/
theorem Els.elem {w wr w' : World} {lo rb : Nat} {p : Option Addr} {cap : Nat} {bs : List UInt8} {vb : Nat} {val : Value} {es : List El} {at' : Nat} {bad : Bool} (h : Els w lo rb p cap bs vb val es at' bad wr) {v : V} {q : Option Addr} {c : Nat} (hv : VIn w' (wr.heap.size ≤ ·) v q c) :
    VIn w' (fun b => vb + 1 ≤ b ∧ some b ≠ val.ownBlock) v q c :=
  hv.keep (Nat.le_refl _) fun b hb _ => ⟨⟨Nat.le_trans h.lt hb, fun e => by have := (h.own.lt b e.symm).2; omega⟩, rfl⟩

theorem Els.still {w wr w' : World} {lo rb : Nat} {p : Option Addr} {cap : Nat} {bs : List UInt8} {vb : Nat} {val : Value} {es : List El} {at' : Nat} {bad : Bool} (h : Els w lo rb p cap bs vb val es at' bad wr) (hg : wr.grownBy w' val.ownBlock) :
    w'.cell? ⟨vb, 3, none⟩ = some val ∧ w'.frozen? ⟨vb, 3, none⟩ = false := by
  have hbl := hg.block vb h.lt (fun e => by have := (h.own.lt vb e.symm).1; omega)
  exact ⟨(World.cell?_of_block (a := ⟨vb, 3, none⟩) hbl).trans h.c3, (World.frozen?_of_block (a := ⟨vb, 3, none⟩) hbl).trans h.fz⟩

theorem Els.beside {w wr w' : World} {lo rb : Nat} {p : Option Addr} {cap : Nat} {bs : List UInt8} {vb : Nat} {val : Value} {es : List El} {at' : Nat} {bad : Bool} (h : Els w lo rb p cap bs vb val es at' bad wr) (hk : Kept wr w' rb none) :
    w'.cell? ⟨vb, 3, none⟩ = some val ∧ w'.frozen? ⟨vb, 3, none⟩ = false := by
  have hbl := hk.block vb h.lt (by have := h.hrb; have := h.hz; omega) (by simp)
  exact ⟨(World.cell?_of_block (a := ⟨vb, 3, none⟩) hbl).trans h.c3, (World.frozen?_of_block (a := ⟨vb, 3, none⟩) hbl).trans h.fz⟩
theorem Els.beside' {w wr w' : World} {lo rb : Nat} {p : Option Addr} {cap : Nat} {bs : List UInt8} {vb : Nat} {val : Value} {es : List El} {at' : Nat} {bad : Bool} (h : Els w lo rb p cap bs vb val es at' bad wr) (hk : Kept wr w' rb none) (o : Obj) :
    (w'.alloc o).cell? ⟨vb, 3, none⟩ = some val :=
  (World.cell?_of_block (a := ⟨vb, 3, none⟩) (Below.heap_alloc w' o vb (Nat.lt_of_lt_of_le h.lt hk.size))).trans (h.beside hk).1
theorem Els.behind {w wr w6 w' : World} {lo rb : Nat} {p : Option Addr} {cap : Nat} {bs : List UInt8} {vb : Nat} {val : Value} {es : List El} {at' : Nat} {bad : Bool} (h : Els w lo rb p cap bs vb val es at' bad wr) (hk : Kept wr w6 rb none) (hg : w6.grownBy w' val.ownBlock) :
    w'.cell? ⟨vb, 3, none⟩ = some val ∧ w'.frozen? ⟨vb, 3, none⟩ = false := by
  obtain ⟨k1, k2⟩ := h.beside hk
  have hbl := hg.block vb (Nat.lt_of_lt_of_le h.lt hk.size) (fun e => by have := (h.own.lt vb e.symm).1; omega)
  exact ⟨(World.cell?_of_block (a := ⟨vb, 3, none⟩) hbl).trans k1, (World.frozen?_of_block (a := ⟨vb, 3, none⟩) hbl).trans k2⟩

/-- The row has grown, and is laid into the variable. -/
theorem Els.push {w wr w' : World} {lo rb : Nat} {p : Option Addr} {cap : Nat} {bs : List UInt8} {vb : Nat} {val val' : Value} {es es' : List El} {at' : Nat} {bad : Bool} (h : Els w lo rb p cap bs vb val es at' bad wr) (hown : OwnE w' (vb + 1) val' es') (hg : wr.grownBy w' val.ownBlock) :
    Els w lo rb p cap bs vb val' es' at' bad (w'.setCell ⟨vb, 3, none⟩ val') := by
  obtain ⟨k3, kf⟩ := h.still hg
  obtain ⟨h1, h2, h3, h4, h5, h6, h7, h8, h9, h10, h11, h12⟩ := h
  have hne : ∀ k, k ≤ vb → some k ≠ val.ownBlock := fun k hk e => by have := (h9.lt k e.symm).1; omega
  have hb : ∀ k, k < vb → (w'.setCell ⟨vb, 3, none⟩ val').heap[k]? = wr.heap[k]? := fun k hk =>
    (heap_setCell_other _ _ _ _ (by dsimp only; omega)).trans (hg.block k (by omega) (hne k (by omega)))
  have hsz : wr.heap.size ≤ (w'.setCell ⟨vb, 3, none⟩ val').heap.size := by simpa using hg.size
  have hbl := hg.block vb h10 (hne vb (Nat.le_refl _))
  have hc := fun o => World.cell?_of_block (a := ⟨vb, o, none⟩) hbl
  have hzc := fun o => World.cell?_of_block (a := ⟨w.heap.size, o, none⟩) (hb w.heap.size h11)
  have hzf := fun o => World.frozen?_of_block (a := ⟨w.heap.size, o, none⟩) (hb w.heap.size h11)
  obtain ⟨⟨a0, a1, a2, a3⟩, ⟨f0, f1, f2, f3⟩, hzl⟩ := h3
  have hks : Kept w' (w'.setCell ⟨vb, 3, none⟩ val') vb none := ⟨rfl, rfl, rfl, by simp, fun k hk hne _ => heap_setCell_other _ _ _ _ hne⟩
  refine ⟨h1.upto hsz fun k hk => hb k (by omega), ?_, ⟨⟨(hzc 0).trans a0, (hzc 1).trans a1, (hzc 2).trans a2, (hzc 3).trans a3⟩, ⟨(hzf 0).trans f0, (hzf 1).trans f1, (hzf 2).trans f2, (hzf 3).trans f3⟩, by omega⟩, ?_, ?_, ?_, World.cell?_setCell_same _ _ _ k3, by simpa using kf, hown.kept hks (Nat.lt_succ_self _), by omega, h11, h12⟩
  · exact ⟨hg.os.trans h2.os, hg.tape.trans h2.tape, hg.output.trans h2.output, Nat.le_trans h2.size hsz, fun k hk hk1 hk2 => (hb k (by omega)).trans (h2.block k hk hk1 hk2)⟩
  · rw [World.cell?_setCell_other _ _ _ _ (by simp)]; exact (hc 0).trans h4
  · rw [World.cell?_setCell_other _ _ _ _ (by simp)]; exact (hc 1).trans h5
  · rw [World.cell?_setCell_other _ _ _ _ (by simp)]; exact (hc 2).trans h6

/-- The list's elements stand when the result is written. -/
theorem wr4_in {wr : World} {zb m : Nat} {v : V} {q : Option Addr} {c : Nat} (h : VIn wr (m ≤ ·) v q c) (hz : zb < m) (v0 v1 v2 v3 : Value) : VIn (wr4 wr zb v0 v1 v2 v3) (zb ≤ ·) v q c :=
  h.keep (by rw [wr4_size]; exact Nat.le_refl _) fun b hb _ => ⟨by omega, wr4_block _ _ _ _ b (by omega)⟩

/-- What is to come, in words of what has been read and whether it stood. -/
def Todo (d u : Nat) (r0 : List UInt8) (es : List El) (j : Nat) (bs : List UInt8) (at' : Nat) (bad : Bool) : Prop :=
  if bad = true then rdMany (rdV d) u r0 = none else rdMany (rdV d) u r0 = more es (rdMany (rdV d) (u - j) (bs.drop at'))
theorem Todo.start (d u : Nat) (bs : List UInt8) (at' : Nat) : Todo d u (bs.drop at') [] 0 bs at' false := by
  unfold Todo
  rw [if_neg (by simp), Nat.sub_zero]
  cases rdMany (rdV d) u (bs.drop at') <;> rfl
theorem Todo.no {d u : Nat} {r0 : List UInt8} {es : List El} {j : Nat} {bs : List UInt8} {at' : Nat} (h : Todo d u r0 es j bs at' false) (hj : j < u) (e : rdV d (bs.drop at') = none) (es' : List El) (j' at2 : Nat) : Todo d u r0 es' j' bs at2 true := by
  unfold Todo at *
  rw [if_neg (by simp), show u - j = u - (j + 1) + 1 by omega, rdMany, e] at h
  rw [if_pos rfl, h]; rfl
theorem Todo.yes {d u : Nat} {r0 : List UInt8} {es : List El} {j : Nat} {bs : List UInt8} {at' at2 : Nat} {v : V} {r : List UInt8} (h : Todo d u r0 es j bs at' false) (hj : j < u) (e : rdV d (bs.drop at') = some (v, r)) (hr : bs.drop at2 = r) (q : Option Addr) (c : Nat) : Todo d u r0 (es ++ [(v, q, c)]) (j + 1) bs at2 false := by
  unfold Todo at *
  rw [if_neg (by simp), show u - j = u - (j + 1) + 1 by omega, rdMany, e] at h
  rw [if_neg (by simp), h, hr]
  dsimp only
  cases rdMany (rdV d) (u - (j + 1)) r with
  | none => rfl
  | some lr => simp [more]
theorem Todo.fin {d u : Nat} {r0 : List UInt8} {es : List El} {bs : List UInt8} {at' : Nat} (h : Todo d u r0 es u bs at' false) : rdMany (rdV d) u r0 = some (es.map (·.1), bs.drop at') := by
  unfold Todo at h
  rw [if_neg (by simp), Nat.sub_self, rdMany] at h
  rw [h]; simp [more]
theorem Todo.gone {d u : Nat} {r0 : List UInt8} {es : List El} {j : Nat} {bs : List UInt8} {at' : Nat} (h : Todo d u r0 es j bs at' true) : rdMany (rdV d) u r0 = none := by
  unfold Todo at h
  rwa [if_pos rfl] at h
/-- A round: an element is read and appended. -/
theorem Els.round {w wr w6 w7 : World} {lo rb : Nat} {p : Option Addr} {cap : Nat} {bs : List UInt8} {vb : Nat} {val val' : Value} {es : List El} {at' : Nat} {d u j : Nat} {r0 : List UInt8} {v : V} {q : Option Addr} {c : Nat} (h : Els w lo rb p cap bs vb val es at' false wr) (hT : Todo d u r0 es j bs at' false) (hj : j < u) (hk : Kept wr w6 rb none)
    (hr : match rdV d (bs.drop at') with
      | none => ∃ a, Rdr w6 lo rb p cap bs a true
      | some (x, r) => v = x ∧ ∃ a, bs.drop a = r ∧ Rdr w6 lo rb p cap bs a false)
    (hown : OwnE w7 (vb + 1) val' (es ++ [(v, q, c)])) (hg : w6.grownBy w7 val.ownBlock) :
    ∃ at4 bad4, Els w lo rb p cap bs vb val' (es ++ [(v, q, c)]) at4 bad4 (w7.setCell ⟨vb, 3, none⟩ val') ∧ Todo d u r0 (es ++ [(v, q, c)]) (j + 1) bs at4 bad4 := by
  cases e : rdV d (bs.drop at') with
  | none =>
    rw [e] at hr
    obtain ⟨a, hr⟩ := hr
    exact ⟨a, true, (h.call hk hr).push hown hg, hT.no hj e _ _ _⟩
  | some xr =>
    obtain ⟨x, r⟩ := xr
    rw [e] at hr
    obtain ⟨rfl, a, ha, hr⟩ := hr
    exact ⟨a, false, (h.call hk hr).push hown hg, hT.yes hj e ha _ _⟩
end Go.Proofs.Ytopkpdaingmmeaa
