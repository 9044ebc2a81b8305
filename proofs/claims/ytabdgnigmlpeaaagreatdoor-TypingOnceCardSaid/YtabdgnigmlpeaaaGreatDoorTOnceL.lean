/- The law's helpers: an environment. -/
import Derived.Test.YtabdgnigmlpeaaaGreatDoorTLaw1
import Derived.Test.YtabdgnigmlpeaaaGreatDoorTApp2
import Derived.Deep.AppendLies
import Derived.Deep.RegionLaw
import Derived.Laws.AppendOwnNone
import Derived.Test.YtabdgnigmlpeaaaGreatDoorTDirect
import Derived.Test.YtabdgnigmlpeaaaGreatDoorTLaw2
import Derived.Deep.DeepCutAuto
import Derived.Test.YtabdgnigmlpeaaaGreatDoorTRefK
namespace Go.Proofs.YtabdgnigmlpeaaaGreatDoor
open Go.RowKit

/-- The environment of a number. -/
def envL (n : Int) : En := ⟨(bits BinOp.and IntKind.i64 n 1073741823).tmod 8, (wrap64 ((bits BinOp.and IntKind.i64 n 1073741823).tdiv 8)).tmod 4001, (wrap64 ((bits BinOp.and IntKind.i64 n 1073741823).tdiv 32008)).tmod 2⟩
set_option maxHeartbeats 1000000 in
theorem envOf_any (n : Int) (w : World) : Calls Tryz.prog 27 #[.int .i64 n] w fun e w' => e = .returned (envV (envL n)) ∧ Below w.heap.size w w' := by
  have HA := Lib.hid ((Below.refl w.heap.size w).alloc (Nat.le_refl _) (.cells #[.int .i64 (envL n).d, .int .i64 (envL n).f, .int .i64 (envL n).s] 42))
  go_enter Tryz.func27, Tryz.ntmps27
  go_wp2_with fail
  refine bodyPost_ret (v := envV (envL n)) ?_ rfl ?_
  · simp [results, Tryz.results27, go_sem, envV, envL]
  · exact ⟨rfl, HA.out⟩
end Go.Proofs.YtabdgnigmlpeaaaGreatDoor
/- Rows of numbers of the call's own: a row behind a row, a number behind a row, in a region that draws its order. -/
namespace Go.Proofs.YtabdgnigmlpeaaaGreatDoor
open Go.RowKit

theorem OwnI.cells {w : World} {B g n cap : Nat} {l : List Int} (h : OwnI w B (.slice (some ⟨g, 0, none⟩) n cap) l) : ∀ j u, (rowV l)[j]? = some u → w.cell? ((⟨g, 0, none⟩ : Addr).add j) = some u := World.ownsRow.cells h (g := g) rfl
theorem OwnI.of_block {w : World} {B k : Nat} {fr : Nat × Nat} (hk : w.heap[k]? = some (.cells #[] 3 fr)) (hB : B ≤ k) (hf : fr = (0, 0)) : OwnI w B (.slice (some ⟨k, 0, none⟩) 0 0) [] := by
  subst hf
  exact ⟨rfl, .inr ⟨k, 0, #[], rfl, hB, hk, Nat.le_refl _, by unfold maxLen; omega, rfl, rfl⟩⟩
theorem own1 (V : World) (k B : Nat) (hk : V.heap.size = k) (hB : B ≤ k) : OwnI (V.alloc (.cells #[] 3)) B (.slice (some ⟨k, 0, none⟩) 0 0) [] := by
  subst hk
  exact OwnI.of_block (heap_alloc_new V _) hB rfl
theorem OwnI.drewI {w : World} {B : Nat} {v : Value} {l : List Int} (h : OwnI w B v l) : OwnI w.drew B v l := h.bel (Below.refl _ _).drew
theorem OwnI.allocI {w : World} {B : Nat} {v : Value} {l : List Int} (h : OwnI w B v l) (o : Obj) : OwnI (w.alloc o) B v l := h.bel ((Below.refl _ _).alloc (Nat.le_refl _) _)
theorem below_in {A w1 W w5 : World} (h0 : Below A.heap.size A w1) (h1 : Below w1.heap.size w1 W) (h2 : Below w1.heap.size W w5) : Below A.heap.size A w5 := h0.trans ((h1.trans h2).mono h0.size)
theorem below_in2 {A w5 W w6 : World} {B : Nat} (h0 : Below A.heap.size A w5) (hA : A.heap.size ≤ B) (h1 : Below w5.heap.size w5 W) (h2 : Below B W w6) : Below A.heap.size A w6 := (h0.trans (h1.mono h0.size)).trans (h2.mono hA)
theorem OwnI.low {w : World} {B : Nat} {v : Value} {l : List Int} (h : OwnI w B v l) : OwnI w 0 v l := by
  refine ⟨h.1, h.2.imp id ?_⟩
  rintro ⟨g, cap, cur, rfl, a, b⟩
  exact ⟨g, cap, cur, rfl, Nat.zero_le _, b⟩
theorem OwnI.below {w w' : World} {B : Nat} {v : Value} {l : List Int} (h : OwnI w B v l) (hg : w.grownBy w' v.ownBlock) (hB : B ≤ w.heap.size) : Below B w w' :=
  ⟨hg.os, hg.tape, hg.output, hg.size, fun k hk => hg.block k (by omega) fun e => by have := (h.lt k e.symm).1; omega⟩
theorem wp_copyI {o : Oper} {a : Act} {w : World} {K : Act → World → Prop} {Q : Exit → Act → World → Prop} (s x : Operand)
    (ho : o.op = .call { callee := .builtin .append, args := #[s, x], argTypes := #[49, 49] })
    (B : Nat) (val : Value) (l : List Int) (hown : OwnI w B val l) (hs : a.eval s = val) (B2 : Nat) (val2 : Value) (cs : List Int) (hsrc : OwnI w B2 val2 cs) (hx : a.eval x = val2) (hn : l.length + cs.length ≤ 3000000) (hB : B ≤ w.heap.size)
    (h : ∀ v2 w', OwnI w' B v2 (l ++ cs) → w.grownBy w' val.ownBlock → Below B w w' → K (a.put o.dst v2) w') :
    Oper.wp Tryz.prog o a w K Q := by
  obtain ⟨i0, hi, hz0, hz1, hz2⟩ := info_parts Tryz.infoI
  rcases hsrc.2 with ⟨hv, hn0⟩ | ⟨g, cap, cur, hv, hBg, hg, hc, hm, hsz, ht⟩
  · obtain rfl : cs = [] := List.length_eq_zero_iff.1 hn0
    have hrun := run_append_owned_none (P := Tryz.prog) (w := w) B 49 o.type 3 i0 1 Tryz.underlying49 hi val l.length (rowV l) hown
    have hk := h val w (by rw [List.append_nil]; exact hown) (World.grownBy.refl _ _) (Below.refl _ _)
    unfold Oper.wp
    simp [execOp, ho, resolve, invoke, builtin, hs, hx, hv, hrun, Result.andThen]
    exact hk
  · subst hv
    refine wp_append_own w s x 49 ho B 3 i0 _ 1 8 Tryz.underlying49 hi hz0 hz1 hz2 rfl (by decide) val l.length (rowV l) hs hown ⟨g, 0, none⟩ cs.length cap (rowV cs) hx (by simp [rowV]) (World.ownsRow.cells hsrc (g := g) rfl) (by simp [rowV, Value.oneCell']) (by unfold maxLen; omega) (by omega) hB ?_
    intro v' w' ho' hg' _
    refine h v' w' ?_ hg' (hown.below hg' hB)
    unfold OwnI
    rw [List.length_append]
    have : rowV (l ++ cs) = rowV l ++ rowV cs := by simp [rowV]
    rw [this]
    exact ho'
theorem step_copyI {ops : Array Oper} {o : Oper} {a : Act} {w : World} {K : Act → World → Prop} {Q : Exit → Act → World → Prop} {E : Prop} (hgd : o.guard = none) (s x : Operand)
    (ho : o.op = .call { callee := .builtin .append, args := #[s, x], argTypes := #[49, 49] })
    (B : Nat) (val : Value) (l : List Int) (hown : OwnI w B val l) (hs : a.eval s = val) (B2 : Nat) (val2 : Value) (cs : List Int) (hsrc : OwnI w B2 val2 cs) (hx : a.eval x = val2) (hn : l.length + cs.length ≤ 3000000) (hB : B ≤ w.heap.size)
    (h : ∀ v2 w', OwnI w' B v2 (l ++ cs) → w.grownBy w' val.ownBlock → Below B w w' → K (a.put o.dst v2) w') :
    if Region.wanted o (yielded ops a.tmps) = true then Oper.wp Tryz.prog o a w K Q else E := by
  have hw : Region.wanted o (yielded ops a.tmps) = true := by simp [Region.wanted, hgd]
  rw [if_pos hw]
  exact wp_copyI s x ho B val l hown hs B2 val2 cs hsrc hx hn hB h
theorem step_pushI {ops : Array Oper} {o : Oper} {a : Act} {w : World} {K : Act → World → Prop} {Q : Exit → Act → World → Prop} {E : Prop} (hgd : o.guard = none) (s x : Operand)
    (ho : o.op = .call { callee := .builtin .append, args := #[s, x], argTypes := #[49, 49] })
    (B : Nat) (val : Value) (l : List Int) (hown : OwnI w B val l) (hs : a.eval s = val) (H c : Nat) (hx : a.eval x = .slice (some ⟨H, 0, none⟩) 1 c) (n : Int) (hcell : w.cell? ⟨H, 0, none⟩ = some (.int .i64 n)) (hn : l.length ≤ 3000000) (hB : B ≤ w.heap.size)
    (h : ∀ v2 w', OwnI w' B v2 (l ++ [n]) → w.grownBy w' val.ownBlock → Below B w w' → K (a.put o.dst v2) w') :
    if Region.wanted o (yielded ops a.tmps) = true then Oper.wp Tryz.prog o a w K Q else E := by
  obtain ⟨i0, hi, hz0, hz1, hz2⟩ := info_parts Tryz.infoI
  have hcells : ∀ j u, ([.int .i64 n] : List Value)[j]? = some u → w.cell? ((⟨H, 0, none⟩ : Addr).add j) = some u := by
    intro j u hj
    match j, hj with
    | 0, hj => simp at hj; subst hj; simpa [Addr.add] using hcell
    | j + 1, hj => simp at hj
  refine step_append_lies _ hgd s x 49 ho B 3 i0 _ 1 8 Tryz.underlying49 hi hz0 hz1 hz2 rfl (by decide) val l.length (rowV l) hs hown ⟨H, 0, none⟩ 1 c _ hx rfl hcells (by simp [Value.oneCell']) (by decide) (by unfold maxLen; omega) (by omega) hB w.heap.size rfl ?_
  intro g cap' w' hown' hg _ _
  refine h _ w' ?_ hg (hown.below hg hB)
  unfold OwnI
  rw [List.length_append]
  have : rowV (l ++ [n]) = rowV l ++ [.int .i64 n] := by simp [rowV]
  rw [this]
  exact hown'
theorem wpList_copyI {ops : Array Oper} {rest : List Oper} {o : Oper} {a : Act} {w : World} {Q : Exit → Act → World → Prop} (hgd : o.guard = none) (s x : Operand)
    (ho : o.op = .call { callee := .builtin .append, args := #[s, x], argTypes := #[49, 49] })
    (B : Nat) (val : Value) (l : List Int) (hown : OwnI w B val l) (hs : a.eval s = val) (B2 : Nat) (val2 : Value) (cs : List Int) (hsrc : OwnI w B2 val2 cs) (hx : a.eval x = val2) (hn : l.length + cs.length ≤ 3000000) (hB : B ≤ w.heap.size)
    (h : ∀ v2 w', OwnI w' B v2 (l ++ cs) → w.grownBy w' val.ownBlock → Below B w w' → wpList Tryz.prog ops Q rest (a.put o.dst v2) w') : wpList Tryz.prog ops Q (o :: rest) a w :=
  wpList_plain hgd fun _ hK => wp_copyI s x ho B val l hown hs B2 val2 cs hsrc hx hn hB fun v2 w' h1 h2 h3 => hK _ _ (h v2 w' h1 h2 h3)
end Go.Proofs.YtabdgnigmlpeaaaGreatDoor
/- Numbers that are read, behind a row of numbers of the call's own. -/
namespace Go.Proofs.YtabdgnigmlpeaaaGreatDoor
open Go.RowKit

theorem run_append_none_cap {w : World} (base : Nat) (t ty e : TypeId) (i : TypeInfo) (size : Nat) (ht : Tryz.prog.underlying t = some (.slice e)) (hi : Tryz.prog.info? e = some i)
    (v : Value) (n : Nat) (xs : List Value) (hown : w.ownsRow base e size v n xs) (c : Nat) :
    (Builtin.append_ #[t, t] ty #[v, .slice none 0 c]).run Tryz.prog w = .ok v w := by
  rcases hown.2 with ⟨rfl, rfl⟩ | ⟨g, cap, cur, rfl, _, _, hnc, _⟩
  · simp [Builtin.append_, run_underlying ht, sizeOf, typeInfo, hi, Builtin.lenOf, Builtin.firstCells]
  · simp [Builtin.append_, run_underlying ht, sizeOf, typeInfo, hi, Builtin.lenOf, Builtin.firstCells, hnc, storeCells]
theorem wp_copyR {o : Oper} {a : Act} {w : World} {K : Act → World → Prop} {Q : Exit → Act → World → Prop} (s x : Operand)
    (ho : o.op = .call { callee := .builtin .append, args := #[s, x], argTypes := #[49, 49] })
    (B : Nat) (val : Value) (l : List Int) (hown : OwnI w B val l) (hs : a.eval s = val) (val2 : Value) (cs : List Int) (hsrc : ReadsI w val2 cs) (hx : a.eval x = val2) (hn : l.length + cs.length ≤ 3000000) (hB : B ≤ w.heap.size)
    (h : ∀ v2 w', OwnI w' B v2 (l ++ cs) → w.grownBy w' val.ownBlock → Below B w w' → K (a.put o.dst v2) w') : Oper.wp Tryz.prog o a w K Q := by
  obtain ⟨i0, hi, hz0, hz1, hz2⟩ := info_parts Tryz.infoI
  obtain ⟨p, cap, b, rfl, h1, h2, h3, h4, h5⟩ := hsrc
  have hcell : ∀ ad, p = some ad → ∀ j u, (rowV cs)[j]? = some u → w.cell? (ad.add j) = some u := fun ad e j u hu => by
    unfold rowV at hu
    rw [List.getElem?_map] at hu
    obtain ⟨n, hj, rfl⟩ := Option.map_eq_some_iff.1 hu
    obtain ⟨hlt, rfl⟩ := List.getElem?_eq_some_iff.1 hj
    have hp := h2 (by rintro rfl; simp at hlt)
    rw [e] at hp
    obtain rfl := Option.some.inj hp
    have hadd : (⟨b, 0, none⟩ : Addr).add j = ⟨b, j, none⟩ := by
      unfold Addr.add
      split <;> simp_all
    rw [hadd]
    exact h3 j hlt
  cases p with
  | none =>
    obtain rfl : cs = [] := by
      by_cases hc : cs = []
      · exact hc
      · exact absurd (h2 hc) (by simp)
    have hrun := run_append_none_cap (w := w) B 49 o.type 3 i0 1 Tryz.underlying49 hi val l.length (rowV l) hown cap
    have hk := h val w (by rw [List.append_nil]; exact hown) (World.grownBy.refl _ _) (Below.refl _ _)
    rw [List.length_nil] at hx
    unfold Oper.wp
    simp [execOp, ho, resolve, invoke, builtin, hs, hx, hrun, Result.andThen]
    exact hk
  | some ad =>
    refine wp_append_own w s x 49 ho B 3 i0 _ 1 8 Tryz.underlying49 hi hz0 hz1 hz2 rfl (by decide) val l.length (rowV l) hs hown ad cs.length cap (rowV cs) hx (by simp [rowV]) (hcell ad rfl) (by simp [rowV, Value.oneCell']) (by unfold maxLen; omega) (by omega) hB ?_
    intro v' w' ho' hg' _
    refine h v' w' ?_ hg' (hown.below hg' hB)
    unfold OwnI
    rw [List.length_append]
    have : rowV (l ++ cs) = rowV l ++ rowV cs := by simp [rowV]
    rw [this]
    exact ho'
theorem wpList_copyR {ops : Array Oper} {rest : List Oper} {o : Oper} {a : Act} {w : World} {Q : Exit → Act → World → Prop} (hgd : o.guard = none) (s x : Operand)
    (ho : o.op = .call { callee := .builtin .append, args := #[s, x], argTypes := #[49, 49] })
    (B : Nat) (val : Value) (l : List Int) (hown : OwnI w B val l) (hs : a.eval s = val) (val2 : Value) (cs : List Int) (hsrc : ReadsI w val2 cs) (hx : a.eval x = val2) (hn : l.length + cs.length ≤ 3000000) (hB : B ≤ w.heap.size)
    (h : ∀ v2 w', OwnI w' B v2 (l ++ cs) → w.grownBy w' val.ownBlock → Below B w w' → wpList Tryz.prog ops Q rest (a.put o.dst v2) w') : wpList Tryz.prog ops Q (o :: rest) a w :=
  wpList_plain hgd fun _ hK => wp_copyR s x ho B val l hown hs val2 cs hsrc hx hn hB fun v2 w' h1 h2 h3 => hK _ _ (h v2 w' h1 h2 h3)
end Go.Proofs.YtabdgnigmlpeaaaGreatDoor
/- Rows of steps of the call's own: steps behind a row of steps. -/
namespace Go.Proofs.YtabdgnigmlpeaaaGreatDoor
open Go.RowKit

/-- An element: a step, and where its lists lie. -/
abbrev ElS := St × Loc
def flatS (es : List ElS) : List Value := es.flatMap fun e => cellsS e.1 e.2
theorem flatS_append (a b : List ElS) : flatS (a ++ b) = flatS a ++ flatS b := by simp [flatS]
theorem flatS_cons (e : ElS) (es : List ElS) : flatS (e :: es) = cellsS e.1 e.2 ++ flatS es := rfl
theorem flatS_length (es : List ElS) : (flatS es).length = es.length * 8 := by
  induction es with
  | nil => rfl
  | cons a l ih => rw [flatS_cons, List.length_append, ih, List.length_cons]; simp only [cellsS, List.length_cons, List.length_nil]; omega
theorem flatS_get (es : List ElS) : ∀ (i : Nat) (h : i < es.length) (j : Nat) (u : Value), (cellsS es[i].1 es[i].2)[j]? = some u → (flatS es)[i * 8 + j]? = some u := by
  induction es with
  | nil => intro i h; simp at h
  | cons a l ih =>
    intro i h j u hu
    have hj : j < 8 := by
      have := (List.getElem?_eq_some_iff.1 hu).1
      simpa [cellsS] using this
    have hlen : (cellsS a.1 a.2).length = 8 := rfl
    rw [flatS_cons]
    cases i with
    | zero =>
      rw [List.getElem?_append_left (by rw [hlen]; omega), Nat.zero_mul, Nat.zero_add]
      exact hu
    | succ i =>
      rw [List.getElem?_append_right (by rw [hlen]; omega), hlen, show (i + 1) * 8 + j - 8 = i * 8 + j by omega]
      exact ih i (by simpa using h) j u hu

theorem flatS_inv (es : List ElS) : ∀ (j : Nat) (u : Value), (flatS es)[j]? = some u → ∃ i r, ∃ (h : i < es.length), j = i * 8 + r ∧ (cellsS es[i].1 es[i].2)[r]? = some u := by
  induction es with
  | nil => intro j u h; simp [flatS] at h
  | cons a l ih =>
    intro j u hu
    have hlen : (cellsS a.1 a.2).length = 8 := rfl
    rw [flatS_cons] at hu
    by_cases hj : j < 8
    · rw [List.getElem?_append_left (by rw [hlen]; exact hj)] at hu
      exact ⟨0, j, by simp, by omega, hu⟩
    · rw [List.getElem?_append_right (by rw [hlen]; omega), hlen] at hu
      obtain ⟨i, r, h, h1, h2⟩ := ih _ _ hu
      exact ⟨i + 1, r, by simpa using h, by omega, h2⟩
/-- The row val is the call's own, from block B on, and holds es, whose lists lie below B. -/
structure OwnT (w : World) (B : Nat) (val : Value) (es : List ElS) : Prop where
  own : w.ownsRow B 84 8 val es.length (flatS es)
  els : ∀ e ∈ es, StIn w (· < B) e.1 e.2
theorem OwnT.lt {w : World} {B : Nat} {val : Value} {es : List ElS} (h : OwnT w B val es) : ∀ k, val.ownBlock = some k → B ≤ k ∧ k < w.heap.size := h.own.lt
theorem OwnT.bel {w w' : World} {B : Nat} {val : Value} {es : List ElS} (h : OwnT w B val es) (hb : Below w.heap.size w w') : OwnT w' B val es := by
  refine ⟨⟨h.own.1, h.own.2.imp id ?_⟩, fun e he => (h.els e he).keep2 hb.size fun b h1 hbl => ⟨h1, hb.block b hbl⟩⟩
  rintro ⟨g, cap, cur, rfl, a, b, c⟩
  exact ⟨g, cap, cur, rfl, a, by rw [hb.block g ((Array.getElem?_eq_some_iff.1 b).1)]; exact b, c⟩
theorem OwnT.of_block {w : World} {B k : Nat} {fr : Nat × Nat} (hk : w.heap[k]? = some (.cells #[] 84 fr)) (hB : B ≤ k) (hf : fr = (0, 0)) : OwnT w B (.slice (some ⟨k, 0, none⟩) 0 0) [] := by
  subst hf
  exact ⟨⟨rfl, .inr ⟨k, 0, #[], rfl, hB, hk, Nat.le_refl _, by unfold maxLen; omega, rfl, rfl⟩⟩, by simp⟩
theorem ownT1 (V : World) (k B : Nat) (hk : V.heap.size = k) (hB : B ≤ k) : OwnT (V.alloc (.cells #[] 84)) B (.slice (some ⟨k, 0, none⟩) 0 0) [] := by
  subst hk
  exact OwnT.of_block (heap_alloc_new V _) hB rfl
theorem OwnT.drewT {w : World} {B : Nat} {v : Value} {es : List ElS} (h : OwnT w B v es) : OwnT w.drew B v es := h.bel (Below.refl _ _).drew
theorem OwnT.allocT {w : World} {B : Nat} {v : Value} {es : List ElS} (h : OwnT w B v es) (o : Obj) : OwnT (w.alloc o) B v es := h.bel ((Below.refl _ _).alloc (Nat.le_refl _) _)
theorem OwnT.shape {w : World} {B : Nat} {v : Value} {es : List ElS} (h : OwnT w B v es) : ∃ p cap, v = .slice p es.length cap := by
  rcases h.own.2 with ⟨hv, hn0⟩ | ⟨g, cap, cur, hv, _⟩
  · rw [hn0]; exact ⟨_, _, hv⟩
  · exact ⟨_, _, hv⟩
/-- What the row is as a value. -/
theorem OwnT.reads {w : World} {B : Nat} {val : Value} {es : List ElS} (h : OwnT w B val es) (hl : es.length ≤ 3000000000000) :
    ∃ p cap, val = .slice p es.length cap ∧ SsIn w (fun _ => True) (es.map (·.1)) p cap := by
  rcases h.own.2 with ⟨hv, hn0⟩ | ⟨g, cap, cur, hv, hB, hg, hc, hm, hsz, ht⟩
  · obtain rfl : es = [] := List.length_eq_zero_iff.1 hn0
    exact ⟨none, 0, hv, SsIn.nil⟩
  · have hh : ∀ i, i < (es.map (·.1)).length → i < es.length := fun i hi => by rwa [List.length_map] at hi
    have hx : ∀ i (hi : i < es.length), ((es[i]?).map (·.2)).getD ⟨none, 0, none, 0, none, 0⟩ = es[i].2 := fun i hi => by rw [List.getElem?_eq_getElem hi]; rfl
    refine ⟨_, cap, hv, .mk _ _ cap g 0 (fun i => ((es[i]?).map (·.2)).getD ⟨none, 0, none, 0, none, 0⟩) (by rw [List.length_map]; omega) (by rw [List.length_map]; exact hc) (by unfold maxLen at hm; omega) (fun h => by cases h) (fun _ => ⟨rfl, trivial, (Array.getElem?_eq_some_iff.1 hg).1⟩) (fun i hi j u hu => ?_) (fun i hi => ?_) (fun i hi => ?_) (fun i hi => ?_)⟩
    · have key : ∀ j u, (flatS es)[j]? = some u → w.cell? ⟨g, j, none⟩ = some u := by
        intro j u hu
        rw [cell_of_row w g j cur _ (0, 0) hg]
        rw [← ht, List.getElem?_take] at hu
        split at hu
        · simpa using hu
        · cases hu
      rw [Nat.zero_add]
      rw [hx i (hh i hi)] at hu
      simp only [List.getElem_map] at hu
      exact key _ _ (flatS_get es i (hh i hi) j u hu)
    · rw [hx i (hh i hi)]
      simp only [List.getElem_map]
      exact ((h.els (es[i]'(hh i hi)) (List.getElem_mem (hh i hi))).keep2 (Nat.le_refl _) fun b _ _ => ⟨trivial, rfl⟩).cd
    · rw [hx i (hh i hi)]
      simp only [List.getElem_map]
      exact ((h.els (es[i]'(hh i hi)) (List.getElem_mem (hh i hi))).keep2 (Nat.le_refl _) fun b _ _ => ⟨trivial, rfl⟩).th
    · rw [hx i (hh i hi)]
      simp only [List.getElem_map]
      exact ((h.els (es[i]'(hh i hi)) (List.getElem_mem (hh i hi))).keep2 (Nat.le_refl _) fun b _ _ => ⟨trivial, rfl⟩).el
theorem Tryz.infoS : (Tryz.prog.info? 84).map (fun i => (i.zero, i.size, i.bytes)) = some (some (.agg #[.int .i64 0, .int .i64 0, .int .i64 0, .int .i64 0, .int .i64 0, .slice none 0 0, .slice none 0 0, .slice none 0 0]), 8, 112) := by kernel_rfl

/-- The elements of a list of steps, and their cells. -/
theorem SsIn.els {w : World} {Q : Nat → Prop} {ss : List St} {p : Option Addr} {cap : Nat} (h : SsIn w Q ss p cap) :
    ∃ es : List ElS, es.map (·.1) = ss ∧ (∀ e ∈ es, StIn w Q e.1 e.2) ∧ ((p = none ∧ cap = 0 ∧ es = []) ∨ ∃ ad, p = some ad ∧ ∀ j u, (flatS es)[j]? = some u → w.cell? (ad.add j) = some u) := by
  cases h with
  | mk _ _ _ b off X hl hc hc2 hp hb hcell hcd hth hel =>
    refine ⟨List.ofFn fun i : Fin ss.length => (ss[i.1], X i.1), ?_, ?_, ?_⟩
    · rw [List.map_ofFn]
      exact List.ofFn_getElem
    · intro e he
      obtain ⟨i, rfl⟩ := List.mem_ofFn.1 he
      exact ⟨hcd i.1 i.2, hth i.1 i.2, hel i.1 i.2⟩
    · cases p with
      | none =>
        have h0 := hp rfl
        have : ss = [] := List.length_eq_zero_iff.1 (by omega)
        subst this
        exact .inl ⟨rfl, h0, rfl⟩
      | some ad =>
        refine .inr ⟨ad, rfl, fun j u hu => ?_⟩
        obtain ⟨i, r, hi, rfl, h2⟩ := flatS_inv _ _ _ hu
        rw [List.length_ofFn] at hi
        obtain ⟨h3, -, -⟩ := hb (by rintro rfl; simp at hi)
        obtain rfl := Option.some.inj h3
        simp only [List.getElem_ofFn] at h2
        have hadd : (⟨b, off, none⟩ : Addr).add (i * 8 + r) = ⟨b, off + i * 8 + r, none⟩ := by
          unfold Addr.add
          rw [Nat.add_assoc]
          split <;> simp_all
        rw [hadd]
        exact hcell i hi r u h2
theorem cellsS_one (e : ElS) : ∀ u ∈ cellsS e.1 e.2, u.oneCell' = true := by simp [Value.oneCell', cellsS]
theorem flatS_one (es : List ElS) : ∀ u ∈ flatS es, u.oneCell' = true := by
  intro u hu
  obtain ⟨e, _, he⟩ := List.mem_flatMap.1 hu
  exact cellsS_one e u he
theorem OwnT.grown {w w' : World} {B : Nat} {val v2 : Value} {es fs : List ElS} (h : OwnT w B val es) (hs : ∀ e ∈ fs, StIn w (· < B) e.1 e.2) (ho : w'.ownsRow B 84 8 v2 (es.length + fs.length) (flatS es ++ flatS fs)) (hg : w.grownBy w' val.ownBlock) : OwnT w' B v2 (es ++ fs) := by
  have key : ∀ e : ElS, StIn w (· < B) e.1 e.2 → StIn w' (· < B) e.1 e.2 := fun e he => he.keep2 hg.size fun b hb hbl => ⟨hb, hg.block b hbl fun e2 => by have := (h.lt b e2.symm).1; omega⟩
  refine ⟨by rw [List.length_append, flatS_append]; exact ho, fun e he => ?_⟩
  rcases List.mem_append.1 he with he | he
  · exact key e (h.els e he)
  · exact key e (hs e he)
theorem OwnT.below {w w' : World} {B : Nat} {v : Value} {es : List ElS} (h : OwnT w B v es) (hg : w.grownBy w' v.ownBlock) (hB : B ≤ w.heap.size) : Below B w w' :=
  ⟨hg.os, hg.tape, hg.output, hg.size, fun k hk => hg.block k (by omega) fun e => by have := (h.lt k e.symm).1; omega⟩
theorem wp_copyT {o : Oper} {a : Act} {w : World} {K : Act → World → Prop} {Q : Exit → Act → World → Prop} (s x : Operand)
    (ho : o.op = .call { callee := .builtin .append, args := #[s, x], argTypes := #[29, 29] })
    (B : Nat) (val : Value) (es : List ElS) (hown : OwnT w B val es) (hs : a.eval s = val) (ss : List St) (p : Option Addr) (cap : Nat) (hsrc : SsIn w (· < B) ss p cap) (hx : a.eval x = .slice p ss.length cap) (hn : es.length + ss.length ≤ 1000000000000) (hB : B ≤ w.heap.size)
    (h : ∀ v2 w' es2, OwnT w' B v2 es2 → es2.map (·.1) = es.map (·.1) ++ ss → w.grownBy w' val.ownBlock → Below B w w' → K (a.put o.dst v2) w') : Oper.wp Tryz.prog o a w K Q := by
  obtain ⟨i0, hi, hz0, hz1, hz2⟩ := info_parts Tryz.infoS
  obtain ⟨fs, rfl, hfs, hp⟩ := hsrc.els
  rw [List.length_map] at hx hn
  rcases hp with ⟨rfl, rfl, rfl⟩ | ⟨ad, rfl, hc⟩
  · have hrun := run_append_owned_none (P := Tryz.prog) (w := w) B 29 o.type 84 i0 8 Tryz.underlying29 hi val es.length (flatS es) hown.own
    have hk := h val w es hown (by simp) (World.grownBy.refl _ _) (Below.refl _ _)
    rw [List.length_nil] at hx
    unfold Oper.wp
    simp [execOp, ho, resolve, invoke, builtin, hs, hx, hrun, Result.andThen]
    exact hk
  · refine wp_append_own w s x 29 ho B 84 i0 _ 8 112 Tryz.underlying29 hi hz0 hz1 hz2 rfl (by decide) val es.length (flatS es) hs hown.own ad fs.length cap (flatS fs) hx (flatS_length fs) hc (flatS_one fs) (by unfold maxLen; omega) (by omega) hB ?_
    intro v' w' ho' hg' _
    exact h v' w' (es ++ fs) (hown.grown hfs ho' hg') (by simp) hg' (hown.below hg' hB)
theorem step_copyT {ops : Array Oper} {o : Oper} {a : Act} {w : World} {K : Act → World → Prop} {Q : Exit → Act → World → Prop} {E : Prop} (hgd : o.guard = none) (s x : Operand)
    (ho : o.op = .call { callee := .builtin .append, args := #[s, x], argTypes := #[29, 29] })
    (B : Nat) (val : Value) (es : List ElS) (hown : OwnT w B val es) (hs : a.eval s = val) (ss : List St) (p : Option Addr) (cap : Nat) (hsrc : SsIn w (· < B) ss p cap) (hx : a.eval x = .slice p ss.length cap) (hn : es.length + ss.length ≤ 1000000000000) (hB : B ≤ w.heap.size)
    (h : ∀ v2 w' es2, OwnT w' B v2 es2 → es2.map (·.1) = es.map (·.1) ++ ss → w.grownBy w' val.ownBlock → Below B w w' → K (a.put o.dst v2) w') :
    if Region.wanted o (yielded ops a.tmps) = true then Oper.wp Tryz.prog o a w K Q else E := by
  have hw : Region.wanted o (yielded ops a.tmps) = true := by simp [Region.wanted, hgd]
  rw [if_pos hw]
  exact wp_copyT s x ho B val es hown hs ss p cap hsrc hx hn hB h
end Go.Proofs.YtabdgnigmlpeaaaGreatDoor
/- Steps behind steps: what they apply; when they are valid. -/
namespace Go.Proofs.YtabdgnigmlpeaaaGreatDoor
open Go.RowKit

/-- What l has that a has not. -/
def besides (a l : List Int) : List Int := l.filter fun n => !a.contains n
theorem besides_nil (l : List Int) : besides [] l = l := by
  unfold besides
  exact List.filter_eq_self.2 fun n _ => by simp
theorem besides_two (b A B : List Int) : besides b (A ++ besides A B) = besides b A ++ besides (b ++ besides b A) B := by
  unfold besides
  rw [List.filter_append, List.filter_filter]
  congr 1
  refine List.filter_congr fun n _ => ?_
  have : ((b ++ A.filter fun n => !b.contains n).contains n) = (b.contains n || A.contains n) := by
    rw [Bool.eq_iff_iff]
    simp only [List.contains_eq_mem, decide_eq_true_eq, List.mem_append, List.mem_filter, Bool.or_eq_true, Bool.not_eq_true', decide_eq_false_iff_not]
    constructor
    · rintro (h | ⟨h, _⟩)
      · exact .inl h
      · exact .inr h
    · rintro (h | h)
      · exact .inl h
      · by_cases hb : n ∈ b
        · exact .inl hb
        · exact .inr ⟨h, hb⟩
  rw [this]
  simp
mutual
theorem appF_besides (x : En) : ∀ (f : Fm) (b : List Int), appF x b f = b ++ besides b (appF x [] f)
  | .crit n, b => by
    rw [appF, appF]
    cases h : b.contains n with
    | true => simp only [if_true]; simp [besides]; simpa using h
    | false =>
      have hn : ¬ n ∈ b := by simpa using h
      simp only [Bool.false_eq_true, if_false]
      simp [besides, hn]
  | .bran c th el, b => by
    rw [appF, appF]
    split
    · exact appFs_besides x th b
    · exact appFs_besides x el b
  | .atl _ _, b => by rw [appF, appF] <;> simp [besides]
  | .all _, b => by rw [appF, appF] <;> simp [besides]
  | .one _, b => by rw [appF, appF] <;> simp [besides]
  | .neg _, b => by rw [appF, appF] <;> simp [besides]
  | .mis, b => by rw [appF, appF] <;> simp [besides]
theorem appFs_besides (x : En) : ∀ (l : List Fm) (b : List Int), appFs x b l = b ++ besides b (appFs x [] l)
  | [], b => by rw [appFs, appFs]; simp [besides]
  | f :: l, b => by
    rw [appFs, appFs, appFs_besides x l (appF x b f), appFs_besides x l (appF x [] f), appF_besides x f b, besides_two, List.append_assoc]
end
theorem app_behind (x : En) (a b : List Fm) : appFs x [] (a ++ b) = appFs x [] a ++ besides (appFs x [] a) (appFs x [] b) := by
  rw [appFs_append, appFs_besides]
mutual
/-- No criterion is applied twice. -/
theorem appF_nodup (x : En) : ∀ (f : Fm) (b : List Int), b.Nodup → (appF x b f).Nodup
  | .crit n, b, h => by
    rw [appF]
    split
    · exact h
    · rename_i hn
      rw [List.nodup_append]
      refine ⟨h, by simp, fun a ha c hc => ?_⟩
      rw [List.mem_singleton] at hc
      subst hc
      rintro rfl
      exact hn (by simpa using ha)
  | .bran c th el, b, h => by
    rw [appF]
    split
    · exact appFs_nodup x th b h
    · exact appFs_nodup x el b h
  | .atl _ _, b, h => by rw [appF] <;> simp [h]
  | .all _, b, h => by rw [appF] <;> simp [h]
  | .one _, b, h => by rw [appF] <;> simp [h]
  | .neg _, b, h => by rw [appF] <;> simp [h]
  | .mis, b, h => by rw [appF] <;> simp [h]
theorem appFs_nodup (x : En) : ∀ (l : List Fm) (b : List Int), b.Nodup → (appFs x b l).Nodup
  | [], b, h => by rw [appFs]; exact h
  | f :: l, b, h => by rw [appFs]; exact appFs_nodup x l _ (appF_nodup x f b h)
end
mutual
/-- Only criteria of 1 to 5 are applied. -/
theorem appF_range (x : En) : ∀ (f : Fm) (b : List Int), rngF f = true → (∀ n ∈ b, 1 ≤ n ∧ n ≤ 5) → ∀ n ∈ appF x b f, 1 ≤ n ∧ n ≤ 5
  | .crit m, b, hr, h, n, hn => by
    rw [rngF, decide_eq_true_eq] at hr
    rw [appF] at hn
    split at hn
    · exact h n hn
    · rcases List.mem_append.1 hn with hn | hn
      · exact h n hn
      · rw [List.mem_singleton] at hn
        subst hn
        exact hr
  | .bran c th el, b, hr, h, n, hn => by
    rw [rngF, Bool.and_eq_true, Bool.and_eq_true, Bool.and_eq_true] at hr
    rw [appF] at hn
    split at hn
    · exact appFs_range x th b hr.1.2.2 h n hn
    · exact appFs_range x el b hr.2 h n hn
  | .atl _ _, b, hr, h, n, hn => by
    rw [appF] at hn
    exact h n hn
    all_goals simp
  | .all _, b, hr, h, n, hn => by
    rw [appF] at hn
    exact h n hn
    all_goals simp
  | .one _, b, hr, h, n, hn => by
    rw [appF] at hn
    exact h n hn
    all_goals simp
  | .neg _, b, hr, h, n, hn => by
    rw [appF] at hn
    exact h n hn
    all_goals simp
  | .mis, b, hr, h, n, hn => by
    rw [appF] at hn
    exact h n hn
    all_goals simp
theorem appFs_range (x : En) : ∀ (l : List Fm) (b : List Int), rngFs l = true → (∀ n ∈ b, 1 ≤ n ∧ n ≤ 5) → ∀ n ∈ appFs x b l, 1 ≤ n ∧ n ≤ 5
  | [], b, _, h, n, hn => by rw [appFs] at hn; exact h n hn
  | f :: l, b, hr, h, n, hn => by
    rw [rngFs, Bool.and_eq_true] at hr
    rw [appFs] at hn
    exact appFs_range x l _ hr.2 (appF_range x f b hr.1 h) n hn
end
theorem tiesE_append {l m : List St} (hl : tiesE l = 0) (hm : tiesE m = 0) : tiesE (l ++ m) = 0 ∨ tiesE (l ++ m) = 2 := by
  have hok : ∀ {k : List St}, tiesE k = 0 → stepsOk (k.map formS) = true := fun {k} h => by
    unfold tiesE at h
    split at h
    · cases h
    · split at h
      · assumption
      · cases h
  have h1 := hok hl
  have h2 := hok hm
  have h3 : stepsOk ((l ++ m).map formS) = true := by
    unfold stepsOk at *
    rw [Bool.and_eq_true] at h1 h2 ⊢
    rw [List.map_append, List.all_append, h1.2, h2.2]
    refine ⟨?_, rfl⟩
    cases l with
    | nil => simp at h1
    | cons a l => rfl
  unfold tiesE
  split
  · exact .inr rfl
  · exact .inl rfl
theorem tiesE_rng {l : List St} (h : tiesE l = 0) : rngFs (l.map formS) = true := by
  unfold tiesE at h
  split at h
  · cases h
  · split at h
    · rename_i h2
      unfold stepsOk at h2
      rw [Bool.and_eq_true, ← rngFs_eq] at h2
      exact h2.2
    · cases h
theorem direct_behind (l m : List St) (x : En) (hl : (directR l x).2 = 0) (hm : (directR m x).2 = 0) (hb : (directR (l ++ m) x).2 = 0) :
    (directR (l ++ m) x).1 = (directR l x).1 ++ besides (directR l x).1 (directR m x).1 ∧ (directR (l ++ m) x).1.Nodup ∧ ∀ n ∈ (directR (l ++ m) x).1, 1 ≤ n ∧ n ≤ 5 := by
  have key : ∀ {k : List St}, (directR k x).2 = 0 → tiesE k = 0 ∧ directR k x = (appFs x [] (k.map formS), 0) := fun {k} h => by
    unfold directR at h ⊢
    split at h
    · rename_i h1; exact absurd h h1
    · rename_i h1
      rw [if_neg h1]
      split at h
      · rename_i h2; exact absurd h h2
      · rename_i h2; rw [if_neg h2]; exact ⟨by simpa using h1, rfl⟩
  obtain ⟨t1, e1⟩ := key hl
  obtain ⟨t2, e2⟩ := key hm
  obtain ⟨t3, e3⟩ := key hb
  rw [e1, e2, e3]
  refine ⟨by rw [List.map_append]; exact app_behind x _ _, appFs_nodup x _ [] List.nodup_nil, appFs_range x _ [] (tiesE_rng t3) (by simp)⟩
theorem direct_limit (l m : List St) (x : En) (hl : (directR l x).2 = 0) (hm : (directR m x).2 = 0) : (directR (l ++ m) x).2 = 0 ∨ (directR (l ++ m) x).2 = 2 := by
  have key : ∀ {k : List St}, (directR k x).2 = 0 → tiesE k = 0 ∧ envE x = 0 := fun {k} h => by
    unfold directR at h
    split at h
    · rename_i h1; exact absurd h h1
    · rename_i h1
      split at h
      · rename_i h2; exact absurd h h2
      · rename_i h2; exact ⟨by simpa using h1, by simpa using h2⟩
  obtain ⟨t1, e1⟩ := key hl
  obtain ⟨t2, -⟩ := key hm
  unfold directR
  rcases tiesE_append t1 t2 with h | h
  · rw [if_neg (by rw [h]; decide), if_neg (by rw [e1]; decide)]; exact .inl rfl
  · rw [if_pos (by rw [h]; decide)]; exact .inr h
end Go.Proofs.YtabdgnigmlpeaaaGreatDoor
/- The law: TypingOnce. -/
namespace Go.Proofs.YtabdgnigmlpeaaaGreatDoor
open Go.RowKit

theorem besides_take (a b : List Int) (j : Nat) (h : j < b.length) : besides a (b.take (j + 1)) = if a.contains b[j] = true then besides a (b.take j) else besides a (b.take j) ++ [b[j]] := by
  unfold besides
  rw [List.take_succ_eq_append_getElem h, List.filter_append]
  cases hc : a.contains b[j] with
  | true =>
    have : b[j] ∈ a := by simpa using hc
    simp [this]
  | false =>
    have : ¬ b[j] ∈ a := by simpa using hc
    simp [this]
theorem ReadsI.take {w : World} {q : Option Addr} {k j : Nat} {l : List Int} (h : ReadsI w (.slice q l.length k) l) (hj : j ≤ l.length) : ReadsI w (.slice q j k) (l.take j) := by
  obtain ⟨p, cap, b, h1, h2, h3, h4, h5, h6⟩ := h
  obtain ⟨rfl, -, rfl⟩ := Value.slice.inj h1
  have hlen : (l.take j).length = j := by rw [List.length_take]; omega
  refine ⟨q, k, b, by rw [hlen], by omega, fun hne => h3 (by rintro rfl; simp at hne), fun i hi => ?_, by omega, h6⟩
  rw [hlen] at hi
  rw [h4 i (by omega), List.getElem_take]
theorem ReadsI.shape {w : World} {v : Value} {l : List Int} (h : ReadsI w v l) : ∃ q k, v = .slice q l.length k := by
  obtain ⟨p, cap, b, h1, _⟩ := h
  exact ⟨p, cap, h1⟩
theorem ReadsI.len {w : World} {v : Value} {l : List Int} (h : ReadsI w v l) : l.length ≤ 1000000 := by
  obtain ⟨p, cap, b, h1, h2, _⟩ := h
  exact h2
theorem own_reads {w : World} {B : Nat} {v : Value} {l : List Int} (h : OwnI w B v l) (hl : l.length ≤ 1000000) : ReadsI w v l := by
  obtain ⟨p, cap, b, h1, h2, h3, h4, h5⟩ := OwnI.reads h hl
  exact ⟨p, cap, b, h1, hl, h2, h3, h4, h5⟩
theorem nodup_take {l : List Int} (h : l.Nodup) (j : Nat) (hj : j < l.length) : (l.take j).contains l[j] = false := by
  rw [List.contains_eq_mem, decide_eq_false_iff_not]
  intro hm
  obtain ⟨i, hi, he⟩ := List.mem_iff_getElem.1 hm
  rw [List.length_take] at hi
  rw [List.getElem_take] at he
  have := (List.pairwise_iff_getElem.1 h) i j (by omega) hj (by omega)
  exact this he

/-- What Direct hands back, for a walk. -/
def DirQ (W : World) (r : List Int × Int) (e : Ending) (w' : World) : Prop := ∃ q k, e = .returned (.tuple #[.slice q r.1.length k, .int .i64 r.2]) ∧ Hid (ReadsI w' (.slice q r.1.length k) r.1) ∧ Hid (Below W.heap.size W w')
theorem DirR.q {W w' : World} {r : List Int × Int} {e : Ending} (h : DirR W r e w') : DirQ W r e w' := by
  obtain ⟨v, he, hr, hb⟩ := h
  obtain ⟨q, k, rfl⟩ := hr.shape
  exact ⟨q, k, he, Lib.hid hr, Lib.hid hb⟩
theorem direct_row {W : World} {B : Nat} {v : Value} {es : List ElS} {ss : List St} (h : OwnT W B v es) (he : es.map (·.1) = ss) (hl : es.length ≤ 1000) (x : En) :
    Calls Tryz.prog 22 #[v, envV x] W (DirQ W (directR ss x)) := by
  obtain ⟨p, cap, rfl, hs⟩ := h.reads (by omega)
  have := tDirect_any hs x
  rw [List.length_map, he] at this
  exact this.mono fun e w' hr => hr.q

set_option maxHeartbeats 16000000 in
set_option maxRecDepth 100000 in
theorem once_any {w : World} {Q1 Q2 : Nat → Prop} {l m : List St} {p1 p2 : Option Addr} {c1 c2 : Nat} (h1 : SsIn w Q1 l p1 c1) (h2 : SsIn w Q2 m p2 c2) (n : Int) :
    Calls Tryz.prog 7 #[.slice p1 l.length c1, .slice p2 m.length c2, .int .i64 n] w fun e w' => e = .returned (.bool true) ∧ Below w.heap.size w w' := by
  have HB0 := Lib.hid (Below.refl w.heap.size w)
  have K1 : Hid (∀ W, Below w.heap.size w W → Calls Tryz.prog 15 #[.slice p1 l.length c1] W fun e w' => e = .returned (.bool (fewS l)) ∧ Hid (Below w.heap.size w w')) := Lib.hid fun W hb => (few_any (h1.bel hb)).mono fun e w' hr => ⟨hr.1, Lib.hid (hb.trans (hr.2.mono hb.size))⟩
  have K2 : Hid (∀ W, Below w.heap.size w W → Calls Tryz.prog 15 #[.slice p2 m.length c2] W fun e w' => e = .returned (.bool (fewS m)) ∧ Hid (Below w.heap.size w w')) := Lib.hid fun W hb => (few_any (h2.bel hb)).mono fun e w' hr => ⟨hr.1, Lib.hid (hb.trans (hr.2.mono hb.size))⟩
  have KE : Hid (∀ W, Below w.heap.size w W → Calls Tryz.prog 27 #[.int .i64 n] W fun e w' => e = .returned (envV (envL n)) ∧ Hid (Below w.heap.size w w')) := Lib.hid fun W hb => (envOf_any n W).mono fun e w' hr => ⟨hr.1, Lib.hid (hb.trans (hr.2.mono hb.size))⟩
  generalize envL n = x at *
  have KD1 : Hid (∀ W, Below w.heap.size w W → Calls Tryz.prog 22 #[.slice p1 l.length c1, envV x] W (DirQ W (directR l x))) := Lib.hid fun W hb => (tDirect_any (h1.bel hb) x).mono fun e w' hr => hr.q
  have KD2 : Hid (∀ W, Below w.heap.size w W → Calls Tryz.prog 22 #[.slice p2 m.length c2, envV x] W (DirQ W (directR m x))) := Lib.hid fun W hb => (tDirect_any (h2.bel hb) x).mono fun e w' hr => hr.q
  have KD3 : Hid (∀ W B v es, OwnT W B v es → es.map (·.1) = l ++ m → es.length ≤ 1000 → Calls Tryz.prog 22 #[v, envV x] W (DirQ W (directR (l ++ m) x))) := Lib.hid fun W B v es ho he hl => direct_row ho he hl x
  have HS1 : Hid (∀ W W', Below w.heap.size w W → Below W.heap.size W W' → SsIn W' (· < W.heap.size) l p1 c1) := Lib.hid fun W W' hb hb' => (h1.keep2 (Q' := (· < w.heap.size)) (Nat.le_refl _) fun b _ hl => ⟨hl, rfl⟩).keep2 (Nat.le_trans hb.size hb'.size) fun b hq hl => ⟨Nat.lt_of_lt_of_le hl hb.size, (hb'.block b (Nat.lt_of_lt_of_le hl hb.size)).trans (hb.block b hl)⟩
  have HS2 : Hid (∀ W W', Below w.heap.size w W → Below W.heap.size W W' → SsIn W' (· < W.heap.size) m p2 c2) := Lib.hid fun W W' hb hb' => (h2.keep2 (Q' := (· < w.heap.size)) (Nat.le_refl _) fun b _ hl => ⟨hl, rfl⟩).keep2 (Nat.le_trans hb.size hb'.size) fun b hq hl => ⟨Nat.lt_of_lt_of_le hl hb.size, (hb'.block b (Nat.lt_of_lt_of_le hl hb.size)).trans (hb.block b hl)⟩
  have HM := Lib.hid (direct_behind l m x)
  have HLim := Lib.hid (direct_limit l m x)
  have HF1 : Hid (fewS l = true → l.length ≤ 20) := Lib.hid fun h => by unfold fewS at h; simp only [Bool.and_eq_true, decide_eq_true_eq] at h; exact h.1
  have HF2 : Hid (fewS m = true → m.length ≤ 20) := Lib.hid fun h => by unfold fewS at h; simp only [Bool.and_eq_true, decide_eq_true_eq] at h; exact h.1
  clear h1 h2
  unfold DirQ at *
  unfold envV at *
  generalize fewS l = q1 at *
  generalize fewS m = q2 at *
  generalize directR l x = r1 at *
  generalize directR m x = r2 at *
  generalize directR (l ++ m) x = r3 at *
  obtain ⟨D1, E1⟩ := r1
  obtain ⟨D2, E2⟩ := r2
  obtain ⟨D3, E3⟩ := r3
  obtain ⟨x1, x2, x3⟩ := x
  simp only at *
  go_enter Tryz.func7, Tryz.ntmps7
  go_wp2_with fail
  go_at_call 10
  refine (sane_any w).mono ?_
  rintro e w1 ⟨rfl, hb⟩
  have HB1 := Lib.hid (HB0.out.trans hb)
  clear hb
  cases q1 with
  | false =>
    go_wp2_with (go_at_call 15; (with_reducible refine (K1.out _ HB1.out).mono ?_); rintro e w2 ⟨rfl, hb⟩)
    go_ret
    exact ⟨rfl, hb.out⟩
  | true =>
    cases q2 with
    | false =>
      go_wp2_with (first
        | (go_at_call 15; (with_reducible refine (K1.out _ HB1.out).mono ?_); rintro e w2 ⟨rfl, hb2⟩)
        | (go_at_call 15; (with_reducible refine (K2.out _ hb2.out).mono ?_); rintro e w3 ⟨rfl, hb3⟩))
      go_ret
      exact ⟨rfl, hb3.out⟩
    | true =>
      have hl1 := HF1.out rfl
      have hl2 := HF2.out rfl
      clear HF1 HF2
      go_upto_region 8 with (first
        | (go_at_call 15; (with_reducible refine (K1.out _ HB1.out).mono ?_); rintro e w2 ⟨rfl, hb2⟩)
        | (go_at_call 15; (with_reducible refine (K2.out _ hb2.out).mono ?_); rintro e w3 ⟨rfl, hb3⟩)
        | (go_at_call 27; (with_reducible refine (KE.out _ hb3.out).mono ?_); rintro e w4 ⟨rfl, hb4⟩; have HB5 := Lib.hid (hb4.out.alloc hb4.out.size (.cells #[.int .i64 x1, .int .i64 x2, .int .i64 x3] 42)); have HX : Hid (∀ w', Below (w4.alloc (.cells #[.int .i64 x1, .int .i64 x2, .int .i64 x3] 42)).heap.size (w4.alloc (.cells #[.int .i64 x1, .int .i64 x2, .int .i64 x3] 42)) w' → w'.cell? ⟨w4.heap.size, 0, none⟩ = some (.int .i64 x1) ∧ w'.cell? ⟨w4.heap.size, 1, none⟩ = some (.int .i64 x2) ∧ w'.cell? ⟨w4.heap.size, 2, none⟩ = some (.int .i64 x3)) := Lib.hid fun w' hb => ⟨keepc hb (by simp [go_sem]), keepc hb (by simp [go_sem]), keepc hb (by simp [go_sem])⟩)
        | (go_at_call 22; (with_reducible refine (KD1.out _ HB5.out).mono ?_); rintro e w5 ⟨qa, ka, rfl, ha, hba⟩; obtain ⟨y0, y1, y2⟩ := HX.out w5 hba.out)
        | (go_at_call 22; (with_reducible refine (KD2.out _ (HB5.out.trans (hba.out.mono HB5.out.size))).mono ?_); rintro e w6 ⟨qb, kb, rfl, hb', hbb⟩; have HA6 := Lib.hid (ha.out.bel hbb.out); have HX6 := Lib.hid (hba.out.trans (hbb.out.mono hba.out.size)); clear y0 y1 y2; obtain ⟨y0, y1, y2⟩ := HX.out w6 HX6.out))
      have HB6 := Lib.hid (HB5.out.trans (HX6.out.mono HB5.out.size))
      obtain ⟨z0, z1, z2⟩ := HX.out (w6.alloc (.cells #[] 84)) (HX6.out.alloc HX6.out.size _)
      go_cut [12, 13] from 41 to 50 (fun v1 v2 wc => ∃ q k, v1 = .slice q D3.length k ∧ v2 = .int .i64 E3 ∧ Hid (ReadsI wc (.slice q D3.length k) D3) ∧ Hid (Below w6.heap.size w6 wc))
      case first =>
        go_region_law (first
          | (refine step_copyT rfl _ _ rfl w6.heap.size (.slice (some ⟨w6.heap.size, 0, none⟩) 0 0) [] (by first | exact ownT1 _ _ _ (by simp) (by simp) | exact (ownT1 _ _ _ (by simp) (by simp)).drewT | exact (ownT1 _ _ _ (by simp) (by simp)).drewT.drewT | exact (ownT1 _ _ _ (by simp) (by simp)).drewT.drewT.drewT) rfl l p1 c1 (HS1.out w6 _ HB6.out (by repeat (first | exact Below.refl _ _ | refine Below.drew ?_ | refine Below.alloc ?_ (by simp <;> omega) _))) rfl (by simp; omega) (by simp <;> omega) ?_
             intro v7 w7 es7 ho7 he7 hg7 hb7
             rw [List.map_nil, List.nil_append] at he7
             have HO7 := Lib.hid ho7
             have HE7 := Lib.hid he7
             have HC7 := Lib.hid (below_in (Below.refl w6.heap.size w6) (by repeat (first | exact Below.refl _ _ | refine Below.drew ?_ | refine Below.alloc ?_ (by simp <;> omega) _)) hb7)
             have hs7 := HC7.out.size
             have hn7 : es7.length = l.length := by rw [← he7, List.length_map]
             obtain ⟨y0', y1', y2'⟩ := HX.out w7 (HX6.out.trans (HC7.out.mono HX6.out.size))
             clear ho7 he7 hg7 hb7)
          | (refine step_copyT rfl _ _ rfl w6.heap.size v7 es7 (OwnT.bel HO7.out (by repeat (first | exact Below.refl _ _ | refine Below.drew ?_ | refine Below.alloc ?_ (by simp <;> omega) _))) rfl m p2 c2 (HS2.out w6 _ HB6.out (HC7.out.trans (Below.mono (by repeat (first | exact Below.refl _ _ | refine Below.drew ?_ | refine Below.alloc ?_ (by simp <;> omega) _)) hs7))) rfl (by omega) (by first | omega | (simp <;> omega)) ?_
             intro v8 w8 es8 ho8 he8 hg8 hb8
             rw [HE7.out] at he8
             have HO8 := Lib.hid ho8
             have HE8 := Lib.hid he8
             have HC8 := Lib.hid (below_in2 HC7.out (Nat.le_refl _) (by repeat (first | exact Below.refl _ _ | refine Below.drew ?_ | refine Below.alloc ?_ (by simp <;> omega) _)) hb8)
             have hn8 : es8.length ≤ 40 := by have := congrArg List.length he8; rw [List.length_map, List.length_append] at this; omega
             obtain ⟨y0'', y1'', y2''⟩ := HX.out w8 (HX6.out.trans (HC8.out.mono HX6.out.size))
             clear ho8 he8 hg8 hb8)
          | (go_simp; go_at_call 22; (with_reducible refine (KD3.out _ _ _ _ (OwnT.bel HO8.out (by repeat (first | exact Below.refl _ _ | refine Below.drew ?_ | refine Below.alloc ?_ (by simp <;> omega) _))) HE8.out (by omega)).mono ?_); rintro e w9 ⟨q9, k9, rfl, hr9, hb9⟩))
        all_goals
          go_wp2_with fail
          go_meet
          exact ⟨q9, k9, rfl, rfl, hr9, Lib.hid ((HC8.out.trans (Below.mono (by repeat (first | exact Below.refl _ _ | refine Below.drew ?_ | refine Below.alloc ?_ (by simp <;> omega) _)) HC8.out.size)).trans (hb9.out.mono (by first | exact HC8.out.size | (have := HC8.out.size; simp <;> omega))))⟩
      case rest =>
        obtain ⟨qc, kc, rfl, rfl, HC3, HBC⟩ := hcut
        have HBw := Lib.hid (HB6.out.trans (HBC.out.mono HB6.out.size))
        have HA := Lib.hid (HA6.out.bel HBC.out)
        have HD := Lib.hid (hb'.out.bel HBC.out)
        clear HS1 HS2 K1 K2 KE KD1 KD2 KD3 HB0 HB1 HB5 HX HX6 HB6 HBC HA6 y0 y1 y2 z0 z1 z2 ha hba hb' hbb hb2 hb3 hb4 hl1 hl2
        by_cases hE1 : E1 = 0
        · subst hE1
          by_cases hE2 : E2 = 0
          · subst hE2
            rcases HLim.out rfl rfl with rfl | rfl
            · obtain ⟨hD, hnd, hrg⟩ := HM.out rfl rfl rfl
              have HWant := Lib.hid hD
              have HND := Lib.hid hnd
              have HRG := Lib.hid hrg
              have hlA := HA.out.len
              have hlD := HD.out.len
              have hlC := HC3.out.len
              have hbs : ∀ j, D1.length + (besides D1 (D2.take j)).length ≤ 1000000 := fun j => by
                have h1 : (besides D1 (D2.take j)).length ≤ (besides D1 D2).length := ((List.take_sublist j D2).filter _).length_le
                have h2 : D3.length = D1.length + (besides D1 D2).length := by rw [hD, List.length_append]
                omega
              clear hD hnd hrg HM HLim
              go_wp2_with (refine wpList_copyR rfl _ _ rfl wc.heap.size (.slice (some ⟨wc.heap.size, 0, none⟩) 0 0) [] (own1 _ _ _ (by simp) (by simp)) rfl (.slice qa D1.length ka) D1 (HA.out.bel (by repeat (first | exact Below.refl _ _ | refine Below.drew ?_ | refine Below.alloc ?_ (by simp <;> omega) _))) rfl (by simp; omega) (by simp <;> omega) ?_
                           intro vw w7 ho7 hg7 hb7
                           rw [List.nil_append] at ho7
                           obtain ⟨qw, kw, rfl⟩ := ho7.shape
                           have HO7 := Lib.hid ho7
                           have HC7 := Lib.hid (below_in (Below.refl wc.heap.size wc) (by repeat (first | exact Below.refl _ _ | refine Below.drew ?_ | refine Below.alloc ?_ (by simp <;> omega) _)) hb7)
                           clear ho7 hg7 hb7)
              go_loopw [14, 15] (fun v i wr => ∃ (j : Nat) (L : List Int) (q : Option Addr) (k : Nat), j ≤ D2.length ∧ i = .int .i64 j ∧ v = .slice q L.length k ∧ Hid (L = D1 ++ besides D1 (D2.take j)) ∧ Hid (OwnI wr wc.heap.size (.slice q L.length k) L) ∧ Hid (Below wc.heap.size wc wr)) (fun _ i _ => D2.length - (intOf i).toNat)
              case atStart => exact ⟨0, D1, qw, kw, Nat.zero_le _, rfl, rfl, Lib.hid (by rw [List.take_zero]; simp [besides]), HO7, HC7⟩
              case round =>
                obtain ⟨j, L, q, k, hj, rfl, rfl, HL, HO, HB⟩ := hrel
                clear HO7 HC7
                by_cases hlt : j < D2.length
                · have hji : (j : Int) < (D2.length : Int) := by omega
                  have HIn := Lib.hid (rin_any D1 D2[j] _ wr (HA.out.bel HB.out))
                  obtain ⟨p, cap, b, e1, e2, e3, e4, e5, e6⟩ := HD.out.bel HB.out
                  obtain ⟨rfl, -, rfl⟩ := Value.slice.inj e1
                  obtain rfl := e3 (by rintro rfl; simp at hlt)
                  have d1 := e4 j hlt
                  have HT := Lib.hid (besides_take D1 D2 j hlt)
                  have hbj := hbs j
                  have hLl : L.length ≤ 1000000 := by have := HL.out; rw [this, List.length_append]; omega
                  have hsz := HB.out.size
                  clear e1 e2 e3 e4 e5 e6
                  generalize D2[j] = v1 at *
                  cases hq : D1.contains v1 with
                  | true =>
                    rw [hq] at HIn HT
                    simp only [if_true] at HT
                    clear hq
                    go_wp2_with (go_at_call 31; (with_reducible refine HIn.out.mono ?_); rintro e w8 ⟨rfl, hb⟩; have HB8 := Lib.hid (HB.out.trans (hb.mono HB.out.size)); have HO8 := Lib.hid (HO.out.bel hb); clear hb)
                    go_roundw
                    case rel => exact ⟨j + 1, L, q, k, by omega, by go_num, rfl, Lib.hid (by rw [HT.out]; exact HL.out), HO8, HB8⟩
                    case measure => simp [intOf]; omega
                  | false =>
                    rw [hq] at HIn HT
                    simp only [Bool.false_eq_true, if_false] at HT
                    clear hq
                    go_wp2_with (first
                      | (go_at_call 31; (with_reducible refine HIn.out.mono ?_); rintro e w8 ⟨rfl, hb⟩; have HB8 := Lib.hid (HB.out.trans (hb.mono HB.out.size)); have HO8 := Lib.hid (HO.out.bel hb); have d2 := keepc hb d1; have hs8 : wc.heap.size ≤ w8.heap.size := Nat.le_trans hsz hb.size; clear hb)
                      | (refine wpList_pushI rfl _ _ rfl wc.heap.size _ L HO8.out rfl v1 1 _ (by simp) rfl (by omega) hs8 ?_; intro g cap' w9 ho9 hg9 hat9; have HB9 := Lib.hid (HB8.out.trans (HO8.out.below hg9 hs8)); have HO9 := Lib.hid ho9; clear ho9 hg9 hat9))
                    go_roundw
                    case rel => exact ⟨j + 1, L ++ [v1], _, _, by omega, by go_num, by rw [List.length_append]; rfl, Lib.hid (by rw [HT.out, HL.out, List.append_assoc]), by rw [List.length_append]; exact HO9, HB9⟩
                    case measure => simp [intOf]; omega
                · have hji : ¬ (j : Int) < (D2.length : Int) := by omega
                  have hLD : L = D3 := by have := HL.out; rw [List.take_of_length_le (by omega)] at this; rw [this, HWant.out]
                  subst hLD
                  clear HL HWant HD hbs
                  go_wp2_with fail
                  go_loopw [16] (fun i wr => ∃ (j : Nat), j ≤ L.length ∧ i = .int .i64 j ∧ Hid (OwnI wr wc.heap.size (.slice q L.length k) L) ∧ Hid (Below wc.heap.size wc wr)) (fun i _ => L.length - (intOf i).toNat)
                  case atStart => exact ⟨0, Nat.zero_le _, rfl, HO, HB⟩
                  case round =>
                    obtain ⟨j', hj', rfl, HO', HB'⟩ := hrel
                    clear HO HB
                    by_cases hlt' : j' < L.length
                    · have hji' : (j' : Int) < (L.length : Int) := by omega
                      have hIn := fun W' => rin_any (L.take j') L[j'] (.slice qc j' kc) W'
                      have hnd := nodup_take HND.out j' hlt'
                      obtain ⟨r1, r2⟩ := HRG.out L[j'] (List.getElem_mem _)
                      obtain ⟨p, cap, b, e1, e2, e3, e4, e5, e6⟩ := HC3.out.bel HB'.out
                      obtain ⟨rfl, -, rfl⟩ := Value.slice.inj e1
                      obtain rfl := e3 (by rintro rfl; simp at hlt')
                      have g1 := e4 j' hlt'
                      rw [hnd] at hIn
                      have HIn : Hid (∀ W', Below wr.heap.size wr W' → Calls Tryz.prog 31 #[.slice (some ⟨b, 0, none⟩) j' kc, .int .i64 L[j']] W' fun e w' => e = .returned (.bool false) ∧ w'.cell? ⟨b, j', none⟩ = some (.int .i64 L[j']) ∧ Hid (Below wc.heap.size wc w') ∧ Hid (OwnI w' wc.heap.size (.slice q L.length k) L)) := Lib.hid fun W' hb => (hIn W' (((HC3.out.bel HB'.out).bel hb).take hj')).mono fun e w' hr =>
                        ⟨hr.1, keepc hr.2 (keepc hb g1), Lib.hid (HB'.out.trans ((hb.trans (hr.2.mono hb.size)).mono HB'.out.size)), Lib.hid ((HO'.out.bel hb).bel hr.2)⟩
                      have hk1 : (j' : Int) ≤ (kc : Int) := by omega
                      have hk2 : j' ≤ kc := by omega
                      clear hIn hnd e1 e2 e3 e4
                      generalize L[j'] = v1 at *
                      have t1 : decide (v1 < 1) = false := decide_eq_false (by omega)
                      have t2 : decide (5 < v1) = false := decide_eq_false (by omega)
                      have t3 : ¬ v1 < 1 := by omega
                      have t4 : ¬ 5 < v1 := by omega
                      clear HND HRG HC3 HA
                      go_wp2_with fail
                      go_region_law (go_simp; go_at_call 31; (with_reducible refine (HIn.out _ (by repeat (first | exact Below.refl _ _ | refine Below.drew ?_ | refine Below.alloc ?_ (by simp <;> omega) _))).mono ?_); rintro e w8 ⟨rfl, g2, HB8, HO8⟩)
                      all_goals
                        go_wp2_with fail
                        go_roundw
                        case rel => exact ⟨j' + 1, by omega, by go_num, HO8, HB8⟩
                        case measure => simp [intOf]; omega
                    · have hji' : ¬ (j' : Int) < (L.length : Int) := by omega
                      go_wp2_with (go_at_call 26; (with_reducible refine (smYes L _ _ _ (HC3.out.bel HB'.out) (own_reads HO'.out hlC)).mono ?_); rintro e w8 ⟨rfl, hb⟩; have HB8 := Lib.hid (HB'.out.trans (hb.mono HB'.out.size)); clear hb)
                      go_ret
                      exact ⟨rfl, HBw.out.trans (HB8.out.mono HBw.out.size)⟩
            · clear HM HLim HA HD HC3
              go_wp2_with fail
              go_ret
              exact ⟨rfl, HBw.out⟩
          · have b2 : (E2 != 0) = true := by simpa using hE2
            clear HM HLim HA HD HC3 hE2
            go_wp2_with fail
            go_ret
            exact ⟨rfl, HBw.out⟩
        · have b1 : (E1 != 0) = true := by simpa using hE1
          clear HM HLim HA HD HC3 hE1
          go_wp2_with fail
          go_ret
          exact ⟨rfl, HBw.out⟩
end Go.Proofs.YtabdgnigmlpeaaaGreatDoor
