/- append of bytes that lie at an address, also none. -/
import Derived.Test.YtlcmedimgoaneaaGreatDoorKOpen
import Derived.Test.YtlcmedimgoaneaaGreatDoorKAlike
import Derived.Deep.Upon
namespace Go.Proofs.YtlcmedimgoaneaaGreatDoor
open Go.RowKit

set_option maxRecDepth 100000 in
theorem run_appAt (w : World) (ty : TypeId) (lo : Nat) (v : Value) (bs : Bs) (hrow : Row w lo v bs) (B : Nat) (p : Option Addr) (cs : Bs) (c : Nat) (hat : BAt w B p cs)
    (hn : bs.length + cs.length ≤ 10000000000000) (hlo : lo ≤ w.heap.size) :
    ∃ v2 w', (Builtin.append_ #[22, 22] ty #[v, .slice p cs.length c]).run Tryz.prog w = .ok v2 w' ∧ Row w' lo v2 (bs ++ cs) ∧ Below lo w w' := by
  obtain ⟨i0, hi, hz0, hz1, hz2⟩ := info_parts Tryz.infoU8
  cases p with
  | none =>
    have hcs : cs = [] := by
      cases cs with
      | nil => rfl
      | cons x r =>
        obtain ⟨b, off, e, _⟩ := hat.at' (by simp)
        cases e
    subst hcs
    have key : ∀ base n cap, n ≤ cap → v = .slice base n cap → (Builtin.append_ #[22, 22] ty #[v, .slice none 0 c]).run Tryz.prog w = .ok v w := by
      rintro base n cap hle rfl
      exact run_append_nothing w 22 22 ty 5 i0 Tryz.underlying22 hi base n cap hle _ (by rw [hz1]; exact Src.ofNil _ Tryz.underlying22 c)
    refine ⟨v, w, ?_, by rw [List.append_nil]; exact hrow, Below.refl _ _⟩
    rcases hrow.2 with ⟨hv, _⟩ | ⟨g, cap, cur, hv, _, _, hle, _⟩
    · exact key none 0 0 (Nat.le_refl _) hv
    · exact key _ _ _ hle hv
  | some ad =>
    have hnews : ∀ j u, (cs.map bv)[j]? = some u → w.cell? (ad.add j) = some u := by
      intro j u hu
      have hj : j < cs.length := by
        have := (List.getElem?_eq_some_iff.1 hu).1
        simpa using this
      obtain ⟨b, off, e, _, _, hc⟩ := hat.at' (by intro h; rw [h] at hj; simp at hj)
      cases e
      rw [addr_add, hc j hj]
      rw [List.getElem?_map, List.getElem?_eq_getElem hj] at hu
      simpa [bv] using hu
    obtain ⟨v2, w', hr, hown, hg, _, _⟩ := run_append_own_at (P := Tryz.prog) w lo 22 ty 5 i0 _ 1 1 Tryz.underlying22 hi hz0 hz1 hz2 rfl (by decide) v bs.length (bs.map bv) hrow ad cs.length c (cs.map bv) (by simp) hnews (by simp [Value.oneCell', bv]) (by unfold maxLen; omega) (by omega) hlo
    refine ⟨v2, w', hr, by unfold Row; rw [List.length_append, List.map_append]; exact hown, ⟨hg.os, hg.tape, hg.output, hg.size, fun k hk => hg.block k (by omega) fun e => ?_⟩⟩
    have := (hrow.rows k e.symm).1
    omega
theorem wp_appAt {o : Oper} {a : Act} {w : World} {K : Act → World → Prop} {Q : Exit → Act → World → Prop} (s x : Operand)
    (ho : o.op = .call { callee := .builtin .append, args := #[s, x], argTypes := #[22, 22] })
    (lo : Nat) (v : Value) (bs : Bs) (hrow : Row w lo v bs) (hs : a.eval s = v) (B : Nat) (p : Option Addr) (cs : Bs) (c : Nat) (hat : BAt w B p cs) (hx : a.eval x = .slice p cs.length c)
    (hn : bs.length + cs.length ≤ 10000000000000) (hlo : lo ≤ w.heap.size)
    (h : ∀ v2 w', Row w' lo v2 (bs ++ cs) → Below lo w w' → K (a.put o.dst v2) w') : Oper.wp Tryz.prog o a w K Q := by
  obtain ⟨v2, w', hr, h2, h3⟩ := run_appAt w o.type lo v bs hrow B p cs c hat hn hlo
  unfold Oper.wp execOp
  simp only [ho, resolve, invoke, builtin, Sem.run_bind, Sem.run_pure, Result.andThen_ok, List.map_toArray, List.map_cons, List.map_nil, hs, hx, hr]
  exact h v2 w' h2 h3
theorem wpList_appAt {ops : Array Oper} {rest : List Oper} {o : Oper} {a : Act} {w : World} {Q : Exit → Act → World → Prop} (hgd : o.guard = none) (s x : Operand)
    (ho : o.op = .call { callee := .builtin .append, args := #[s, x], argTypes := #[22, 22] })
    (lo : Nat) (v : Value) (bs : Bs) (hrow : Row w lo v bs) (hs : a.eval s = v) (B : Nat) (p : Option Addr) (cs : Bs) (c : Nat) (hat : BAt w B p cs) (hx : a.eval x = .slice p cs.length c)
    (hn : bs.length + cs.length ≤ 10000000000000) (hlo : lo ≤ w.heap.size)
    (h : ∀ v2 w', Row w' lo v2 (bs ++ cs) → Below lo w w' → wpList Tryz.prog ops Q rest (a.put o.dst v2) w') : wpList Tryz.prog ops Q (o :: rest) a w :=
  wpList_plain hgd fun _ hK => wp_appAt s x ho lo v bs hrow hs B p cs c hat hx hn hlo fun v2 w' h2 h3 => hK _ _ (h v2 w' h2 h3)
theorem step_appAt {ops : Array Oper} {o : Oper} {a : Act} {w : World} {K : Act → World → Prop} {Q : Exit → Act → World → Prop} {E : Prop} (hgd : o.guard = none) (s x : Operand)
    (ho : o.op = .call { callee := .builtin .append, args := #[s, x], argTypes := #[22, 22] })
    (lo : Nat) (v : Value) (bs : Bs) (hrow : Row w lo v bs) (hs : a.eval s = v) (B : Nat) (p : Option Addr) (cs : Bs) (c : Nat) (hat : BAt w B p cs) (hx : a.eval x = .slice p cs.length c)
    (hn : bs.length + cs.length ≤ 10000000000000) (hlo : lo ≤ w.heap.size)
    (h : ∀ v2 w', Row w' lo v2 (bs ++ cs) → Below lo w w' → K (a.put o.dst v2) w') :
    if Region.wanted o (yielded ops a.tmps) = true then Oper.wp Tryz.prog o a w K Q else E := by
  have hw : Region.wanted o (yielded ops a.tmps) = true := by simp [Region.wanted, hgd]
  rw [if_pos hw]
  exact wp_appAt s x ho lo v bs hrow hs B p cs c hat hx hn hlo h
theorem wpList_appAtK {ops : Array Oper} {rest : List Oper} {o : Oper} {a : Act} {w : World} {Q : Exit → Act → World → Prop} (hgd : o.guard = none) (s x : Operand)
    (ho : o.op = .call { callee := .builtin .append, args := #[s, x], argTypes := #[22, 22] })
    (lo : Nat) (v : Value) (bs : Bs) (hrow : Row w lo v bs) (hs : a.eval s = v) (B : Nat) (p : Option Addr) (cs : Bs) (k c : Nat) (hx : a.eval x = .slice p k c) (hk : cs.length = k) (hat : BAt w B p cs)
    (hn : bs.length + cs.length ≤ 10000000000000) (hlo : lo ≤ w.heap.size)
    (h : ∀ v2 w', Row w' lo v2 (bs ++ cs) → Below lo w w' → wpList Tryz.prog ops Q rest (a.put o.dst v2) w') : wpList Tryz.prog ops Q (o :: rest) a w := by
  subst hk
  exact wpList_appAt hgd s x ho lo v bs hrow hs B p cs c hat hx hn hlo h
theorem step_appAtK {ops : Array Oper} {o : Oper} {a : Act} {w : World} {K : Act → World → Prop} {Q : Exit → Act → World → Prop} {E : Prop} (hgd : o.guard = none) (s x : Operand)
    (ho : o.op = .call { callee := .builtin .append, args := #[s, x], argTypes := #[22, 22] })
    (lo : Nat) (v : Value) (bs : Bs) (hrow : Row w lo v bs) (hs : a.eval s = v) (B : Nat) (p : Option Addr) (cs : Bs) (k c : Nat) (hx : a.eval x = .slice p k c) (hk : cs.length = k) (hat : BAt w B p cs)
    (hn : bs.length + cs.length ≤ 10000000000000) (hlo : lo ≤ w.heap.size)
    (h : ∀ v2 w', Row w' lo v2 (bs ++ cs) → Below lo w w' → K (a.put o.dst v2) w') :
    if Region.wanted o (yielded ops a.tmps) = true then Oper.wp Tryz.prog o a w K Q else E := by
  subst hk
  exact step_appAt hgd s x ho lo v bs hrow hs B p cs c hat hx hn hlo h
theorem row_empty (w : World) : Row (w.alloc (.cells #[] 5)) w.heap.size (.slice (some ⟨w.heap.size, 0, none⟩) 0 0) [] :=
  ⟨rfl, .inr ⟨w.heap.size, 0, #[], rfl, Nat.le_refl _, heap_alloc_new w _, Nat.le_refl _, by decide, rfl, rfl⟩⟩
theorem bat_nil (w : World) (B : Nat) (p : Option Addr) : BAt w B p [] := ⟨fun h => absurd rfl h⟩
theorem BAt.of_row {w : World} {lo : Nat} {v : Value} {bs : Bs} (h : Row w lo v bs) {p : Option Addr} {k c : Nat} (hv : v = .slice p k c) : bs.length = k ∧ BAt w lo p bs := by
  obtain ⟨q, d, e, hq⟩ := h.reads
  rw [hv] at e
  cases e
  exact ⟨rfl, hq⟩
/-- Parts of a row of bytes. -/
theorem BAt.drop {w : World} {B b off : Nat} {l : Bs} (h : BAt w B (some ⟨b, off, none⟩) l) (i : Nat) : BAt w B (some ⟨b, off + i, none⟩) (l.drop i) :=
  ⟨fun hne => by
    have hl : i < l.length := by
      rcases Nat.lt_or_ge i l.length with h | h
      · exact h
      · exact absurd (List.drop_of_length_le h) hne
    obtain ⟨b', o', e, hB, hlt, hc⟩ := h.at' (by intro h; rw [h] at hl; simp at hl)
    cases e
    refine ⟨b, off + i, rfl, hB, hlt, fun j hj => ?_⟩
    rw [List.length_drop] at hj
    have := hc (i + j) (by omega)
    rw [Nat.add_assoc, this, List.getElem_drop]⟩
theorem BAt.take {w : World} {B : Nat} {p : Option Addr} {l : Bs} (h : BAt w B p l) (i : Nat) : BAt w B p (l.take i) :=
  ⟨fun hne => by
    obtain ⟨b, off, e, hB, hlt, hc⟩ := h.at' (by intro h; rw [h] at hne; simp at hne)
    refine ⟨b, off, e, hB, hlt, fun j hj => ?_⟩
    rw [List.length_take] at hj
    have := hc j (by omega)
    rw [this, List.getElem_take]⟩
end Go.Proofs.YtlcmedimgoaneaaGreatDoor
