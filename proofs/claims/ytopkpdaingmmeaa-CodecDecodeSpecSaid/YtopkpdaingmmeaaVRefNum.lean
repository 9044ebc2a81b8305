/- The specification's numeral: rows of bytes that a call makes by append. -/
import Derived.Test.YtopkpdaingmmeaaVOut
import Derived.Lib.AppendStr
namespace Go.Proofs.Ytopkpdaingmmeaa
open Go.RowKit

/-- The row v is the call's own, from block lo on, and holds bs. -/
def Row (w : World) (lo : Nat) (v : Value) (bs : List UInt8) : Prop := w.ownsRow lo 5 1 v bs.length (bs.map bv)
theorem Row.rows {w : World} {lo : Nat} {v : Value} {bs : List UInt8} (h : Row w lo v bs) : ∀ k, v.ownBlock = some k → lo ≤ k ∧ k < w.heap.size := fun k hk => World.ownsRow.lt h k hk
theorem Row.mono {w : World} {lo lo' : Nat} {v : Value} {bs : List UInt8} (h : Row w lo v bs) (hl : lo' ≤ lo) : Row w lo' v bs :=
  ⟨h.1, h.2.imp id fun ⟨g, cap, cur, a, b, c⟩ => ⟨g, cap, cur, a, Nat.le_trans hl b, c⟩⟩
theorem Row.bel {w w' : World} {lo m : Nat} {v : Value} {bs : List UInt8} (h : Row w lo v bs) (hb : Below m w w') (hm : w.heap.size ≤ m) : Row w' lo v bs := by
  refine ⟨h.1, h.2.imp id ?_⟩
  rintro ⟨g, cap, cur, a, b, c, d⟩
  exact ⟨g, cap, cur, a, b, by rw [hb.block g (by have := (Array.getElem?_eq_some_iff.1 c).1; omega)]; exact c, d⟩
theorem Row.one (w : World) (x : Int) (h0 : 0 ≤ x) (h1 : x < 256) : Row (w.alloc (.cells #[.int .u8 x] 5)) w.heap.size (.slice (some ⟨w.heap.size, 0, none⟩) 1 1) [UInt8.ofNat x.toNat] := by
  refine ⟨rfl, .inr ⟨w.heap.size, 1, #[.int .u8 x], rfl, Nat.le_refl _, heap_alloc_new w _, Nat.le_refl _, by decide, rfl, ?_⟩⟩
  rw [bv_ofI x h0 h1]; rfl
theorem Row.form {w : World} {lo : Nat} {v : Value} {bs : List UInt8} (h : Row w lo v bs) (hne : 0 < bs.length) : ∃ g cap, v = .slice (some ⟨g, 0, none⟩) bs.length cap := by
  rcases h.2 with ⟨_, h0⟩ | ⟨g, cap, cur, rfl, _⟩
  · omega
  · exact ⟨g, cap, rfl⟩

/-- append(s, x...): both rows of bytes. -/
theorem wpList_appRow {ops : Array Oper} {rest : List Oper} {o : Oper} {a : Act} {w : World} {Q : Exit → Act → World → Prop} (hgd : o.guard = none) (s x : Operand)
    (ho : o.op = .call { callee := .builtin .append, args := #[s, x], argTypes := #[27, 27] })
    (lo : Nat) (v : Value) (bs : List UInt8) (hrow : Row w lo v bs) (hs : a.eval s = v) (lo' : Nat) (v' : Value) (cs : List UInt8) (hsrc : Row w lo' v' cs) (hx : a.eval x = v') (hcs : 0 < cs.length)
    (hn : bs.length + cs.length ≤ 10000000000000) (hlo : lo ≤ w.heap.size)
    (h : ∀ v2 w', Row w' lo v2 (bs ++ cs) → Below lo w w' → wpList Try.prog ops Q rest (a.put o.dst v2) w') :
    wpList Try.prog ops Q (o :: rest) a w := by
  obtain ⟨i0, hi, hz0, hz1, hz2⟩ := info_parts Try.infoU8
  obtain ⟨g', cap', rfl⟩ := hsrc.form hcs
  refine wpList_append_lies _ hgd s x 27 ho lo 5 i0 _ 1 1 Try.underlying27 hi hz0 hz1 hz2 rfl (by decide) v bs.length (bs.map bv) hs hrow ⟨g', 0, none⟩ cs.length cap' (cs.map bv) hx (by simp) (World.ownsRow.cells hsrc (g := g') rfl) (by simp [Value.oneCell', bv]) hcs (by unfold maxLen; omega) (by omega) hlo w.heap.size rfl ?_
  intro g cap w' hown hg _ _
  refine h _ w' (by unfold Row; rw [List.length_append, List.map_append]; exact hown) ⟨hg.os, hg.tape, hg.output, hg.size, fun k hk => hg.block k (by omega) fun e => ?_⟩
  have := (hrow.rows k e.symm).1
  omega

/-- append(s, t...): a text behind a row of bytes. -/
theorem wpList_appText {ops : Array Oper} {rest : List Oper} {o : Oper} {a : Act} {w : World} {Q : Exit → Act → World → Prop} (hgd : o.guard = none) (s x : Operand)
    (ho : o.op = .call { callee := .builtin .append, args := #[s, x], argTypes := #[27, 9] })
    (lo : Nat) (v : Value) (bs : List UInt8) (hrow : Row w lo v bs) (hs : a.eval s = v) (tx : ByteArray) (hx : a.eval x = .string tx)
    (hn : bs.length + tx.size ≤ 10000000000000) (hlo : lo ≤ w.heap.size)
    (h : ∀ v2 w', Row w' lo v2 (bs ++ tx.data.toList) → Below lo w w' → wpList Try.prog ops Q rest (a.put o.dst v2) w') :
    wpList Try.prog ops Q (o :: rest) a w := by
  obtain ⟨i0, hi, hz0, hz1, hz2⟩ := info_parts Try.infoU8
  refine Lib.wpList_append_own_string w hgd s x 27 9 ho lo 5 i0 Try.underlying27 Try.underlying9 hi hz0 hz1 hz2 v bs.length (bs.map bv) hs hrow tx hx (by unfold maxLen; omega) (by omega) hlo ?_
  intro v2 w' hown hg _
  refine h _ w' (by unfold Row; rw [List.length_append, List.map_append, Array.length_toList]; exact hown) ⟨hg.os, hg.tape, hg.output, hg.size, fun k hk => hg.block k (by omega) fun e => ?_⟩
  have := (hrow.rows k e.symm).1
  omega

/-- As steps of a region that draws its order. -/
theorem step_appRow {ops : Array Oper} {o : Oper} {a : Act} {w : World} {K : Act → World → Prop} {Q : Exit → Act → World → Prop} {E : Prop} (hgd : o.guard = none) (s x : Operand)
    (ho : o.op = .call { callee := .builtin .append, args := #[s, x], argTypes := #[27, 27] })
    (lo : Nat) (v : Value) (bs : List UInt8) (hrow : Row w lo v bs) (hs : a.eval s = v) (lo' : Nat) (v' : Value) (cs : List UInt8) (hsrc : Row w lo' v' cs) (hx : a.eval x = v') (hcs : 0 < cs.length)
    (hn : bs.length + cs.length ≤ 10000000000000) (hlo : lo ≤ w.heap.size)
    (h : ∀ v2 w', Row w' lo v2 (bs ++ cs) → Below lo w w' → K (a.put o.dst v2) w') :
    if Region.wanted o (yielded ops a.tmps) = true then Oper.wp Try.prog o a w K Q else E := by
  obtain ⟨i0, hi, hz0, hz1, hz2⟩ := info_parts Try.infoU8
  obtain ⟨g', cap', rfl⟩ := hsrc.form hcs
  refine step_append_lies _ hgd s x 27 ho lo 5 i0 _ 1 1 Try.underlying27 hi hz0 hz1 hz2 rfl (by decide) v bs.length (bs.map bv) hs hrow ⟨g', 0, none⟩ cs.length cap' (cs.map bv) hx (by simp) (World.ownsRow.cells hsrc (g := g') rfl) (by simp [Value.oneCell', bv]) hcs (by unfold maxLen; omega) (by omega) hlo w.heap.size rfl ?_
  intro g cap w' hown hg _ _
  refine h _ w' (by unfold Row; rw [List.length_append, List.map_append]; exact hown) ⟨hg.os, hg.tape, hg.output, hg.size, fun k hk => hg.block k (by omega) fun e => ?_⟩
  have := (hrow.rows k e.symm).1
  omega
theorem step_appText {ops : Array Oper} {o : Oper} {a : Act} {w : World} {K : Act → World → Prop} {Q : Exit → Act → World → Prop} {E : Prop} (hgd : o.guard = none) (s x : Operand)
    (ho : o.op = .call { callee := .builtin .append, args := #[s, x], argTypes := #[27, 9] })
    (lo : Nat) (v : Value) (bs : List UInt8) (hrow : Row w lo v bs) (hs : a.eval s = v) (tx : ByteArray) (hx : a.eval x = .string tx)
    (hn : bs.length + tx.size ≤ 10000000000000) (hlo : lo ≤ w.heap.size)
    (h : ∀ v2 w', Row w' lo v2 (bs ++ tx.data.toList) → Below lo w w' → K (a.put o.dst v2) w') :
    if Region.wanted o (yielded ops a.tmps) = true then Oper.wp Try.prog o a w K Q else E := by
  obtain ⟨i0, hi, hz0, hz1, hz2⟩ := info_parts Try.infoU8
  have hw : Region.wanted o (yielded ops a.tmps) = true := by simp [Region.wanted, hgd]
  rw [if_pos hw]
  obtain ⟨v2, w', hr, hown, hg, _⟩ := Lib.run_append_own_string (P := Try.prog) w lo 27 9 o.type 5 i0 Try.underlying27 Try.underlying9 hi hz0 hz1 hz2 v bs.length (bs.map bv) hrow tx (by unfold maxLen; omega) (by omega) hlo
  unfold Oper.wp execOp
  simp only [ho, resolve, invoke, builtin, Sem.run_bind, Sem.run_pure, Result.andThen_ok, List.map_toArray, List.map_cons, List.map_nil, hs, hx, hr]
  refine h _ w' (by unfold Row; rw [List.length_append, List.map_append, Array.length_toList]; exact hown) ⟨hg.os, hg.tape, hg.output, hg.size, fun k hk => hg.block k (by omega) fun e => ?_⟩
  have := (hrow.rows k e.symm).1
  omega

theorem num_pos (u : Nat) : 0 < (num u).length := by
  by_cases h : u < 128
  · rw [num_lt h]; simp
  · rw [num_ge h]; simp
theorem num_le (u : Nat) (hu : u < 18446744073709551616) : (num u).length ≤ 10 := by
  rw [num_length u hu]
  have := Lib.bitLen_le u 64 (by omega) hu
  omega

set_option maxRecDepth 100000 in
set_option maxHeartbeats 2000000 in
theorem refNumeral_any : ∀ (u : Nat), u < 18446744073709551616 → ∀ (w : World),
    Calls Try.prog 44 #[.int .u64 u] w fun e w' => ∃ v, e = .returned v ∧ Row w' w.heap.size v (num u) ∧ Below w.heap.size w w' := by
  intro u
  induction u using Nat.strongRecOn with
  | ind u ih =>
  intro hu w
  have HBE := Lib.hid (Below.refl w.heap.size w)
  by_cases hlt : u < 128
  · have HO := Lib.hid (Row.one w u (by omega) (by omega))
    clear ih
    go_enter Try.func44, Try.ntmps44
    go_wp2_with fail
    go_ret
    refine ⟨_, rfl, ?_, HBE.out.alloc (Nat.le_refl _) _⟩
    rw [num_lt hlt]
    exact HO.out
  · have HU : Hid (∀ w, Calls Try.prog 44 #[.int .u64 ((u : Int) / 128)] w fun e w' => ∃ v, e = .returned v ∧ Row w' w.heap.size v (num (u / 128)) ∧ Below w.heap.size w w') := Lib.hid fun w => by
      have := ih (u / 128) (by omega) (by omega) w
      rwa [show ((u / 128 : Nat) : Int) = (u : Int) / 128 by omega] at this
    have HO := Lib.hid (Row.one w ((u : Int) % 128 + 128) (by omega) (by omega))
    have HN : Hid (num u = [UInt8.ofNat ((u : Int) % 128 + 128).toNat] ++ num (u / 128)) := Lib.hid (by rw [num_ge hlt, show ((u : Int) % 128 + 128).toNat = u % 128 + 128 by omega]; rfl)
    have HP := num_pos (u / 128)
    have HL := num_le (u / 128) (by omega)
    clear ih
    go_enter Try.func44, Try.ntmps44
    go_wp2_with fail
    refine (HU.out _).mono ?_
    rintro e w1 ⟨v1, rfl, hr1, hb1⟩
    have HR1 := Lib.hid hr1
    have HB1 := Lib.hid hb1
    have hsz : w.heap.size ≤ w1.heap.size := by have := hb1.size; simp at this; omega
    clear hr1 hb1
    go_wp2_with (refine wpList_appRow rfl _ _ rfl w.heap.size _ _ (HO.out.bel HB1.out (Nat.le_refl _)) rfl _ _ _ HR1.out rfl HP (by simp; omega) hsz ?_; intro v2 w2 hr2 hb2)
    go_ret
    refine ⟨_, rfl, ?_, ((HBE.out.alloc (Nat.le_refl _) _).trans (HB1.out.mono (by simp))).trans hb2⟩
    rw [HN.out]
    exact hr2
end Go.Proofs.Ytopkpdaingmmeaa
