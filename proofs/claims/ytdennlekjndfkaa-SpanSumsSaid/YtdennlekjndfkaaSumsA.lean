/- SpanSums: what its last region needs. -/
import Derived.Test.YtdennlekjndfkaaLawAddSpec
import Derived.Test.YtdennlekjndfkaaMath11
import Derived.Test.YtdennlekjndfkaaLawTidy
import Derived.Test.YtdennlekjndfkaaCommon
import Derived.Deep.RegionHeld3
import Derived.Deep.AppendLies
import Derived.Deep.CutRange
import Derived.Deep.QuietTactic
import Derived.BigQuiet
namespace Go.Proofs.Ytdennlekjndfkaa.spanSums
open Go.ChangeShapes Go.WideShapes Go.ChangeAt Go.RowKit

theorem bestTidy {l : List Sp} (h : Best l) : ∀ i (h : i + 1 < l.length), (l[i]'(by omega)).2 + 1 < l[i + 1].1 := fun i hi =>
  List.pairwise_iff_getElem.1 h.1.2 i (i + 1) (by omega) hi (by omega)
theorem tidyB (p : Option Addr) (cap : Nat) (l : List Sp) (w : World) (B : Nat) (hl : SpAt w B p l) (h : Best l) :
    Calls Try.prog 30 #[.slice p l.length cap] w fun e w' => e = .returned (.bool true) ∧ Below w.heap.size w w' :=
  lawTidy_any p cap l w B hl h.2.2 h.2.1 (bestTidy h)
theorem ends_step {k1 k m1 m : Nat} {lo lo' : Bool} (h : k1 < k ∨ (k1 = k ∧ m1 < m) → lo = true) (h2 : lo = true → lo' = true) (h3 : k1 = k → m1 = m → lo' = true) :
    k1 < k ∨ (k1 = k ∧ m1 < m + 1) → lo' = true := by
  intro h4
  by_cases h5 : k1 < k ∨ (k1 = k ∧ m1 < m)
  · exact h2 (h h5)
  · exact h3 (by omega) (by omega)
theorem add_at {a b : List Sp} (h : addE a b = 0) {z : Sp} (hz : z ∈ addS a b) :
    (∃ k1 m1, ∃ (h1 : k1 < a.length) (h2 : m1 < b.length), a[k1].1 + b[m1].1 = z.1) ∧ (∃ k1 m1, ∃ (h1 : k1 < a.length) (h2 : m1 < b.length), a[k1].2 + b[m1].2 = z.2) := by
  obtain ⟨⟨p, hp, q, hq, e⟩, ⟨p', hp', q', hq', e'⟩⟩ := add_ends h hz
  obtain ⟨k1, h1, rfl⟩ := List.getElem_of_mem hp
  obtain ⟨m1, h2, rfl⟩ := List.getElem_of_mem hq
  obtain ⟨k2, h3, rfl⟩ := List.getElem_of_mem hp'
  obtain ⟨m2, h4, rfl⟩ := List.getElem_of_mem hq'
  exact ⟨⟨k1, m1, h1, h2, e⟩, ⟨k2, m2, h3, h4, e'⟩⟩
/-- The loop over a: what it knows of the witnesses k1 and k2. -/
def Seen (k1 k2 k : Nat) (lo hi : Bool) : Prop := (k1 < k → lo = true) ∧ (k2 < k → hi = true)
def Seen2 (k1 m1 k2 m2 k m : Nat) (lo hi : Bool) : Prop := (k1 < k ∨ (k1 = k ∧ m1 < m) → lo = true) ∧ (k2 < k ∨ (k2 = k ∧ m2 < m) → hi = true)

theorem news {w : World} {B2 : Nat} {ad : Addr} {l2 : List Sp} (hq : SpAt w B2 (some ad) l2) : ∀ j u, (flat l2)[j]? = some u → w.cell? (ad.add j) = some u := by
  intro j u hu
  have hj : j < l2.length * 2 := by have := (List.getElem?_eq_some_iff.1 hu).1; rwa [flat_length] at this
  obtain ⟨b, off, h1, _, _, hc⟩ := hq.at' (by rintro rfl; simp at hj)
  obtain rfl : ad = ⟨b, off, none⟩ := Option.some.inj h1
  have hi2 : j / 2 < l2.length := by omega
  have hadd : (⟨b, off, none⟩ : Addr).add j = ⟨b, off + j, none⟩ := by unfold Addr.add; split <;> simp_all
  rw [hadd]
  have hg := flat_get l2 (j / 2) hi2
  have hcc := hc (j / 2) hi2
  rcases Nat.mod_two_eq_zero_or_one j with hm | hm
  · rw [show off + j = off + j / 2 * 2 by omega, hcc.1, ← hg.1, show j / 2 * 2 = j by omega, hu]
  · rw [show off + j = off + j / 2 * 2 + 1 by omega, hcc.2, ← hg.2, show j / 2 * 2 + 1 = j by omega, hu]
theorem flat_cell (l2 : List Sp) : ∀ u ∈ flat l2, u.oneCell' = true := by
  intro u hu
  unfold flat at hu
  rw [List.mem_flatMap] at hu
  obtain ⟨s, _, hs⟩ := hu
  simp at hs
  rcases hs with rfl | rfl <;> rfl
theorem SpAt_drop {w : World} {B b off : Nat} {l : List Sp} (h : SpAt w B (some ⟨b, off, none⟩) l) (k : Nat) : SpAt w B (some ⟨b, off + k * 2, none⟩) (l.drop k) := by
  refine ⟨fun s hs => h.fit s (List.mem_of_mem_drop hs), by have := h.len; rw [List.length_drop]; omega, fun hne => ?_⟩
  obtain ⟨b', off', e, h1, h2, hc⟩ := h.at' (by rintro rfl; simp at hne)
  simp only [Option.some.injEq, Addr.mk.injEq, and_true] at e
  obtain ⟨rfl, rfl⟩ := e
  refine ⟨b, off + k * 2, rfl, h1, h2, fun i hi => ?_⟩
  rw [List.length_drop] at hi
  have := hc (k + i) (by omega)
  rw [show off + k * 2 + i * 2 = off + (k + i) * 2 by omega]
  simpa using this
theorem SpAt_take {w : World} {B b off : Nat} {l : List Sp} (h : SpAt w B (some ⟨b, off, none⟩) l) (k : Nat) : SpAt w B (some ⟨b, off, none⟩) (l.take k) := by
  refine ⟨fun s hs => h.fit s (List.mem_of_mem_take hs), by have := h.len; rw [List.length_take]; omega, fun hne => ?_⟩
  obtain ⟨b', off', e, h1, h2, hc⟩ := h.at' (by rintro rfl; simp at hne)
  simp only [Option.some.injEq, Addr.mk.injEq, and_true] at e
  obtain ⟨rfl, rfl⟩ := e
  refine ⟨b, off, rfl, h1, h2, fun i hi => ?_⟩
  rw [List.length_take] at hi
  have := hc i (by omega)
  simpa using this

/-- append to an empty slice of the call's own: the row is new. -/
theorem step_first {ops : Array Oper} {o : Oper} {a : Act} {w : World} {K : Act → World → Prop} {Q : Exit → Act → World → Prop} {E : Prop} (hgd : o.guard = none) (s x : Operand)
    (ho : o.op = .call { callee := .builtin .append, args := #[s, x], argTypes := #[24, 24] })
    (n : Nat) (hown : Own w n (.slice (some ⟨n, 0, none⟩) 0 0) []) (hs : a.eval s = .slice (some ⟨n, 0, none⟩) 0 0) (B2 : Nat) (ad : Addr) (m c : Nat) (l2 : List Sp) (hx : a.eval x = .slice (some ad) m c) (hq : SpAt w B2 (some ad) l2) (hm : l2.length = m) (hp : 0 < m) (hm2 : m ≤ 1000)
    (h : ∀ v' w', Own w' w.heap.size v' l2 → Below w.heap.size w w' → K (a.put o.dst v') w') :
    if Region.wanted o (yielded ops a.tmps) = true then o.wp Try.prog a w K Q else E := by
  have hw : Region.wanted o (yielded ops a.tmps) = true := by simp [Region.wanted, hgd]
  rw [if_pos hw]
  obtain ⟨i0, hi, hz0, hz1, hz2⟩ := info_parts Try.infoSp
  subst hm
  have hnw := news hq
  obtain ⟨v1, w1, hr1, hown1, _⟩ := run_append_own (P := Try.prog) w n 24 o.type 23 i0 _ 2 16 Try.underlying24 hi hz0 hz1 hz2 rfl (by decide) (.slice (some ⟨n, 0, none⟩) 0 0) 0 [] hown ad l2.length c (flat l2) (flat_length l2) hnw (flat_cell l2) (by unfold maxLen; omega) (by omega) (Nat.le_of_lt (hown.lt n rfl).2)
  have hr2 := run_append_grow (P := Try.prog) w 24 o.type 23 i0 _ Try.underlying24 hi hz0 ⟨n, 0, none⟩ 0 0 [] (by simp) (by intro j v hv; simp at hv) ad l2.length c (flat l2) (by rw [hz1]; exact flat_length l2) hnw (by omega) (by omega) (growslice_fits (by omega) (by rw [hz2]; omega))
  have e := hr1.symm.trans hr2
  injection e with e1 e2
  have hb : Below w.heap.size w w1 := by
    rw [e2]
    exact (Below.refl _ w).drew.alloc (by simp) _
  have hown2 : Own w1 w.heap.size v1 l2 := by
    have h0 : w1.ownsRow n 23 2 v1 l2.length (flat l2) := by simpa using hown1
    refine ⟨h0.1, ?_⟩
    rcases h0.2 with ⟨hv, _⟩ | ⟨g, cap, cur, hv, _, hrest⟩
    · rw [hv] at e1; cases e1
    · right
      refine ⟨g, cap, cur, hv, ?_, hrest⟩
      rw [hv] at e1
      injection e1 with e3
      injection e3 with e3
      injection e3 with e3
      omega
  unfold Oper.wp execOp
  simp only [ho, resolve, invoke, builtin, Sem.run_bind, Sem.run_pure, Result.andThen_ok, List.map_toArray, List.map_cons, List.map_nil, hs, hx, hr1]
  exact h v1 w1 hown2 hb
/-- append to a row of the call's own. -/
theorem step_app {ops : Array Oper} {o : Oper} {a : Act} {w : World} {K : Act → World → Prop} {Q : Exit → Act → World → Prop} {E : Prop} (hgd : o.guard = none) (s x : Operand)
    (ho : o.op = .call { callee := .builtin .append, args := #[s, x], argTypes := #[24, 24] })
    (B : Nat) (v : Value) (l : List Sp) (hs : a.eval s = v) (hown : Own w B v l) (ad : Addr) (m c : Nat) (l2 : List Sp) (hx : a.eval x = .slice (some ad) m c) (hnw : ∀ j u, (flat l2)[j]? = some u → w.cell? (ad.add j) = some u) (hm : l2.length = m) (hm2 : l.length + m ≤ 1000) (hB : B ≤ w.heap.size)
    (h : ∀ v' w', Own w' B v' (l ++ l2) → w.grownBy w' v.ownBlock → Below B w w' → K (a.put o.dst v') w') :
    if Region.wanted o (yielded ops a.tmps) = true then o.wp Try.prog a w K Q else E := by
  have hw : Region.wanted o (yielded ops a.tmps) = true := by simp [Region.wanted, hgd]
  rw [if_pos hw]
  obtain ⟨i0, hi, hz0, hz1, hz2⟩ := info_parts Try.infoSp
  subst hm
  refine wp_append_own w s x 24 ho B 23 i0 _ 2 16 Try.underlying24 hi hz0 hz1 hz2 rfl (by decide) v l.length (flat l) hs hown ad l2.length c (flat l2) hx (flat_length l2) hnw (flat_cell l2) (by unfold maxLen; omega) (by omega) hB ?_
  intro v' w' hown' hg _
  exact h v' w' (by rw [Own, List.length_append, flat_append]; exact hown') hg ((Below.refl B w).grown hg hB fun k hk => (hown.lt k hk).1)
/-- Two cells that hold a span. -/
def Bx (w : World) (h : Nat) (x : Sp) : Prop := w.cell? ⟨h, 0, none⟩ = some (.int .i64 x.1) ∧ w.cell? ⟨h, 1, none⟩ = some (.int .i64 x.2)
theorem Bx.grown {w w' : World} {h : Nat} {x : Sp} {row : Option Nat} (hb : Bx w h x) (hg : w.grownBy w' row) (hne : some h ≠ row) : Bx w' h x :=
  ⟨hg.cell hb.1 hne, hg.cell hb.2 hne⟩
theorem Bx.below {w w' : World} {h n : Nat} {x : Sp} (hb : Bx w h x) (hg : Below n w w') (hlt : h < n) : Bx w' h x :=
  ⟨(hg.cell (p := ⟨h, 0, none⟩) hlt).trans hb.1, (hg.cell (p := ⟨h, 1, none⟩) hlt).trans hb.2⟩
theorem Bx.news {w : World} {h : Nat} {x : Sp} (hb : Bx w h x) : ∀ j u, (flat [x])[j]? = some u → w.cell? ((⟨h, 0, none⟩ : Addr).add j) = some u := by
  intro j u hj
  match j, hj with
  | 0, hj => simp [flat] at hj; subst hj; simpa [Addr.add] using hb.1
  | 1, hj => simp [flat] at hj; subst hj; simpa [Addr.add] using hb.2
  | j + 2, hj => simp [flat] at hj
theorem keepX {wr w9 : World} {b o1 o2 : Nat} {v1 v2 : Value} (hb : b < wr.heap.size) (c1 : wr.cell? ⟨b, o1, none⟩ = some v1) (c2 : wr.cell? ⟨b, o2, none⟩ = some v2) (h : Below wr.heap.size wr w9) :
    w9.cell? ⟨b, o1, none⟩ = some v1 ∧ w9.cell? ⟨b, o2, none⟩ = some v2 ∧ Hid (Below wr.heap.size wr w9) :=
  ⟨(h.cell (p := ⟨b, o1, none⟩) hb).trans c1, (h.cell (p := ⟨b, o2, none⟩) hb).trans c2, h⟩
theorem heldX {wr wc : World} {b o1 o2 : Nat} {v1 v2 : Value} (h : wc.cell? ⟨b, o1, none⟩ = some v1 ∧ wc.cell? ⟨b, o2, none⟩ = some v2 ∧ Hid (Below wr.heap.size wr wc)) : Below wr.heap.size wr wc := h.2.2.out

theorem le_al (w : World) (o : Obj) : w.heap.size ≤ (w.alloc o).heap.size := by simp
theorem upAl {wr wc : World} {b o1 o2 : Nat} {v1 v2 : Value} (h : wc.cell? ⟨b, o1, none⟩ = some v1 ∧ wc.cell? ⟨b, o2, none⟩ = some v2 ∧ Hid (Below wr.heap.size wr wc)) (o : Obj) : Below wr.heap.size wr (wc.alloc o) := h.2.2.out.alloc h.2.2.out.size o

theorem up5 {wr W w5 : World} (h : Below wr.heap.size wr W) (hb : Below W.heap.size W w5) : Below wr.heap.size wr w5 := h.trans (hb.mono h.size)
theorem up6 {wr W w5 w6 : World} (h5 : Below wr.heap.size wr w5) (hb : Below W.heap.size W w5) (hc : Below W.heap.size w5 w6) (h : wr.heap.size ≤ W.heap.size := by first | (simp; done) | (simp; omega)) : Below wr.heap.size wr w6 := h5.trans (hc.mono h)
theorem up6' {wr W w5 w6 : World} {o : Obj} (h5 : Below wr.heap.size wr w5) (hb : Below W.heap.size W w5) (hc : Below W.heap.size (w5.alloc o) w6) (h : wr.heap.size ≤ W.heap.size := by first | (simp; done) | (simp; omega)) : Below wr.heap.size wr w6 := (h5.alloc h5.size o).trans (hc.mono h)
theorem up7 {wr W w5 w6 w7 : World} (h6 : Below wr.heap.size wr w6) (hb : Below W.heap.size W w5) (hc : Below W.heap.size w6 w7) (h : wr.heap.size ≤ W.heap.size := by first | (simp; done) | (simp; omega)) : Below wr.heap.size wr w7 := h6.trans (hc.mono h)
theorem up7' {wr W w5 w6 w7 : World} {o : Obj} (h6 : Below wr.heap.size wr w6) (hb : Below W.heap.size W w5) (hc : Below W.heap.size (w6.alloc o) w7) (h : wr.heap.size ≤ W.heap.size := by first | (simp; done) | (simp; omega)) : Below wr.heap.size wr w7 := (h6.alloc h6.size o).trans (hc.mono h)
theorem Bx.new (w : World) (x : Sp) : Bx (w.alloc (.cells #[.int .i64 x.1, .int .i64 x.2] 23)) w.heap.size x := ⟨by simp, by simp⟩
theorem Bx.new' (w : World) (x : Sp) : Bx ((w.alloc (.cells #[] 23)).alloc (.cells #[.int .i64 x.1, .int .i64 x.2] 23)).drew (w.heap.size + 1) x := by
  have h := Bx.new (w.alloc (.cells #[] 23)) x
  rw [World.size_alloc] at h
  exact ⟨h.1, h.2⟩
theorem Bx.newb (w : World) (x : Sp) : Bx ((w.alloc (.cells #[.int .i64 x.1, .int .i64 x.2] 23)).alloc (.cells #[] 23)).drew w.heap.size x := by
  have h := (Bx.new w x).below ((Below.refl _ _).alloc (Nat.le_refl _) (.cells #[] 23)) (by simp)
  exact ⟨h.1, h.2⟩
theorem Bx.w5 {w5 w6 : World} {B : Nat} {v5 : Value} {l : List Sp} {x : Sp} (hown : Own w5 B v5 l) (hg : (w5.alloc (.cells #[.int .i64 x.1, .int .i64 x.2] 23)).grownBy w6 v5.ownBlock) : Bx w6 w5.heap.size x :=
  Bx.grown (Bx.new w5 x) hg fun e => by have := (hown.lt _ e.symm).2; omega
theorem Bx.A {wr w5 w6 : World} {v5 : Value} {l : List Sp} {x : Sp} (hown : Own w5 ((wr.alloc (.cells #[] 23)).alloc (.cells #[.int .i64 x.1, .int .i64 x.2] 23)).drew.heap.size v5 l) (hb : Below ((wr.alloc (.cells #[] 23)).alloc (.cells #[.int .i64 x.1, .int .i64 x.2] 23)).drew.heap.size ((wr.alloc (.cells #[] 23)).alloc (.cells #[.int .i64 x.1, .int .i64 x.2] 23)).drew w5) (hg : w5.grownBy w6 v5.ownBlock) : Bx w6 (wr.heap.size + 1) x :=
  ((Bx.new' wr x).below hb (by simp)).grown hg fun e => by have := (hown.lt _ e.symm).1; simp at this; omega
theorem Bx.D {wr w5 w6 : World} {v5 : Value} {l : List Sp} {x : Sp} (hown : Own w5 ((wr.alloc (.cells #[.int .i64 x.1, .int .i64 x.2] 23)).alloc (.cells #[] 23)).drew.heap.size v5 l) (hb : Below ((wr.alloc (.cells #[.int .i64 x.1, .int .i64 x.2] 23)).alloc (.cells #[] 23)).drew.heap.size ((wr.alloc (.cells #[.int .i64 x.1, .int .i64 x.2] 23)).alloc (.cells #[] 23)).drew w5) (hg : w5.grownBy w6 v5.ownBlock) : Bx w6 wr.heap.size x :=
  ((Bx.newb wr x).below hb (by simp; omega)).grown hg fun e => by have := (hown.lt _ e.symm).1; simp at this; omega
end Go.Proofs.Ytdennlekjndfkaa.spanSums
