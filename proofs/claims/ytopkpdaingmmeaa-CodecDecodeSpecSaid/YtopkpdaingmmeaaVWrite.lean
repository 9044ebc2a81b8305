/- The writers of the three kinds, and of a value. -/
import Derived.Test.YtopkpdaingmmeaaVSize
import Derived.Lib.AppendStr
import Derived.Deep.RegionHeld3
import Derived.Deep.RegionLaw
import Derived.Laws.EntriesVeiled
namespace Go.Proofs.Ytopkpdaingmmeaa
open Go.RowKit

/-- append(o.b, c) at a step of a region that draws its order. -/
theorem step_push {ops : Array Oper} {o : Oper} {a : Act} {w : World} {K : Act → World → Prop} {Q : Exit → Act → World → Prop} {E : Prop} (hgd : o.guard = none) (s x : Operand)
    (ho : o.op = .call { callee := .builtin .append, args := #[s, x], argTypes := #[27, 27] })
    (lo ob : Nat) (v : Value) (bs : List UInt8) (hout : Out w lo ob v bs) (hs : a.eval s = v) (nb c : Nat) (hx : a.eval x = .slice (some ⟨nb, 0, none⟩) 1 c) (ch : UInt8) (hch : w.cell? ⟨nb, 0, none⟩ = some (bv ch))
    (hn : bs.length ≤ 10000000000000)
    (h : ∀ g cap w', w'.ownsRow lo 5 1 (.slice (some ⟨g, 0, none⟩) (bs.length + 1) cap) (bs.length + 1) (bs.map bv ++ [bv ch]) → w.grownBy w' v.ownBlock → (v.ownBlock = some g ∨ w.heap.size ≤ g) → g ≠ ob → w'.cell? ⟨ob, 0, none⟩ = some v → w'.frozen? ⟨ob, 0, none⟩ = false → K (a.put o.dst (.slice (some ⟨g, 0, none⟩) (bs.length + 1) cap)) w') :
    if Region.wanted o (yielded ops a.tmps) = true then Oper.wp Try.prog o a w K Q else E := by
  obtain ⟨i0, hi, hz0, hz1, hz2⟩ := info_parts Try.infoU8
  have hlo := hout.lo
  have hlt := hout.lt
  refine step_append_lies _ hgd s x 27 ho lo 5 i0 _ 1 1 Try.underlying27 hi hz0 hz1 hz2 rfl (by decide) v bs.length (bs.map bv) hs hout.own ⟨nb, 0, none⟩ 1 c [bv ch] hx rfl ?_ (by simp [Value.oneCell', bv]) (by decide) (by unfold maxLen; omega) (by omega) (by omega) w.heap.size rfl ?_
  · intro j u hj
    match j, hj with
    | 0, hj => simp at hj; subst hj; simpa [Addr.add] using hch
    | j + 1, hj => simp at hj
  intro g cap w' hown hg hat _
  have hb := hg.block ob hlt (fun e => hout.ne e.symm)
  refine h g cap w' hown hg (hat.imp id fun e => by omega) ?_ ((World.cell?_of_block (a := ⟨ob, 0, none⟩) hb).trans hout.c0) ((World.frozen?_of_block (a := ⟨ob, 0, none⟩) hb).trans hout.fz)
  rcases hat with e | e
  · rintro rfl; exact hout.ne e
  · omega

theorem writers_any (w : World) : Calls Try.prog 27 #[] w fun e w' => e = .returned (.agg #[.nilFunc, .func (.func 41) #[] #[], .func (.func 42) #[] #[], .func (.func 43) #[] #[]]) ∧ Below w.heap.size w w' := by
  go_enter Try.func27, Try.ntmps27
  go_wp2_with fail
  refine bodyPost_ret (v := .agg #[.nilFunc, .func (.func 41) #[] #[], .func (.func 42) #[] #[], .func (.func 43) #[] #[]]) ?_ rfl ⟨rfl, ?_⟩
  · simp [results, Try.results27, go_sem]
  · exact (Below.refl _ w).alloc (Nat.le_refl _) _

/-- append(o.b, s...) for a text, at a step of a region that draws its order. -/
theorem step_text {ops : Array Oper} {o : Oper} {a : Act} {w : World} {K : Act → World → Prop} {Q : Exit → Act → World → Prop} {E : Prop} (hgd : o.guard = none) (s x : Operand)
    (ho : o.op = .call { callee := .builtin .append, args := #[s, x], argTypes := #[27, 9] })
    (lo ob : Nat) (v : Value) (bs : List UInt8) (hout : Out w lo ob v bs) (hs : a.eval s = v) (tx : ByteArray) (hx : a.eval x = .string tx) (hn : bs.length + tx.size ≤ 10000000000000)
    (h : ∀ q m c w', w'.ownsRow lo 5 1 (.slice q m c) (bs.length + tx.size) (bs.map bv ++ tx.data.toList.map bv) → w.grownBy w' v.ownBlock → w'.cell? ⟨ob, 0, none⟩ = some v → w'.frozen? ⟨ob, 0, none⟩ = false → K (a.put o.dst (.slice q m c)) w') :
    if Region.wanted o (yielded ops a.tmps) = true then Oper.wp Try.prog o a w K Q else E := by
  obtain ⟨i0, hi, hz0, hz1, hz2⟩ := info_parts Try.infoU8
  have hw : Region.wanted o (yielded ops a.tmps) = true := by simp [Region.wanted, hgd]
  rw [if_pos hw]
  obtain ⟨v', w', hr, hown, hg, _⟩ := Lib.run_append_own_string (P := Try.prog) w lo 27 9 o.type 5 i0 Try.underlying27 Try.underlying9 hi hz0 hz1 hz2 v bs.length (bs.map bv) hout.own tx (by unfold maxLen; omega) (by omega) hout.base
  have hb := hg.block ob hout.lt (fun e => hout.ne e.symm)
  obtain ⟨q, m, c, rfl⟩ : ∃ q m c, v' = .slice q m c := by
    rcases hown.2 with ⟨rfl, _⟩ | ⟨g, cap, cur, rfl, _⟩
    · exact ⟨_, _, _, rfl⟩
    · exact ⟨_, _, _, rfl⟩
  unfold Oper.wp execOp
  simp only [ho, resolve, invoke, builtin, Sem.run_bind, Sem.run_pure, Result.andThen_ok, List.map_toArray, List.map_cons, List.map_nil, hs, hx, hr]
  exact h q m c w' hown hg ((World.cell?_of_block (a := ⟨ob, 0, none⟩) hb).trans hout.c0) ((World.frozen?_of_block (a := ⟨ob, 0, none⟩) hb).trans hout.fz)

theorem writeInt_any (k n : Int) (s : ByteArray) (sl : Value) (hn : Fit64 n) (w : World) (lo ob : Nat) (ov : Value) (bs : List UInt8) (ho : Out w lo ob ov bs) (hbs : bs.length ≤ 1000000000000) :
    Calls Try.prog 41 #[.pointer (some ⟨ob, 0, none⟩), .agg #[.int .i64 k, .int .i64 n, .string s, sl]] w fun e w' => e = .returned (.tuple #[]) ∧ Below lo w w' ∧ ∃ v', Out w' lo ob v' (bs ++ num (uns n)) := by
  have HB : Hid (∀ o, Below lo w (w.alloc o)) := Lib.hid fun o => (Below.refl lo w).alloc ho.base o
  have HN : Hid (∀ o, Calls Try.prog 56 #[.pointer (some ⟨ob, 0, none⟩), .int .u64 (uns n)] (w.alloc o) fun e w' => e = .returned (.tuple #[]) ∧ Below lo w w' ∧ ∃ v', Out w' lo ob v' (bs ++ num (uns n))) := Lib.hid fun o =>
    (numeral_any lo ob (uns n) ((uns_fit n).2 hn) bs hbs ov _ (ho.alloc o)).mono fun e w' ⟨h1, v', h2, h3, _⟩ => ⟨h1, (HB.out o).trans (h3.below ho.lo ho.rows (Nat.le_trans ho.base (HB.out o).size)), v', h2⟩
  clear ho
  go_enter Try.func41, Try.ntmps41
  go_wp2_with fail
  go_at_call 40
  refine (unsigned_any n _ hn).mono ?_
  rintro e w' ⟨rfl, rfl⟩
  go_wp2_with fail
  go_at_call 56
  refine (HN.out _).mono ?_
  rintro e w' ⟨rfl, h2, h3⟩
  have H2 := Lib.hid h2
  have H3 := Lib.hid h3
  clear h2 h3
  go_wp2_with fail
  go_end0
  exact ⟨rfl, H2.out, H3.out⟩

set_option maxHeartbeats 1000000 in
theorem writeText_any (k n : Int) (s : ByteArray) (sl : Value) (hs : s.size ≤ 1000000000000) (w : World) (lo ob : Nat) (ov : Value) (bs : List UInt8) (ho : Out w lo ob ov bs) (hbs : bs.length ≤ 1000000000000) :
    Calls Try.prog 42 #[.pointer (some ⟨ob, 0, none⟩), .agg #[.int .i64 k, .int .i64 n, .string s, sl]] w fun e w' => e = .returned (.tuple #[]) ∧ Below lo w w' ∧ ∃ v', Out w' lo ob v' (bs ++ (num s.size ++ s.data.toList)) := by
  have HB : Hid (∀ o, Below lo w (w.alloc o)) := Lib.hid fun o => (Below.refl lo w).alloc ho.base o
  have hoblt := ho.lt
  have hrow := ho.row_lt
  have hn10 : (num s.size).length ≤ 10 := by
    rw [num_length s.size (by omega)]
    have := Lib.bitLen_le s.size 64 (by omega) (by omega)
    omega
  have HN : Hid (Calls Try.prog 56 #[.pointer (some ⟨ob, 0, none⟩), .int .u64 s.size] (w.alloc (.cells #[.int .i64 k, .int .i64 n, .string s, sl] 24)) fun e w' => e = .returned (.tuple #[]) ∧ Below lo w w' ∧ (∃ v', Out w' lo ob v' (bs ++ num s.size)) ∧ w'.cell? ⟨w.heap.size, 2, none⟩ = some (.string s)) := Lib.hid <|
    (numeral_any lo ob s.size (by omega) bs hbs ov _ (ho.alloc _)).mono fun e w' ⟨h1, v', h2, h3, _⟩ => ⟨h1, (HB.out _).trans (h3.below ho.lo ho.rows (Nat.le_trans ho.base (HB.out _).size)), ⟨v', h2⟩, by
      rw [h3.cell (a := ⟨w.heap.size, 2, none⟩) (by simp) (by simp; omega) (by intro e; have := hrow _ e.symm; simp at this)]
      simp [go_sem]⟩
  clear ho hrow
  go_enter Try.func42, Try.ntmps42
  go_wp2_with fail
  go_at_call 56
  refine HN.out.mono ?_
  rintro e w1 ⟨rfl, h2, ⟨v1, h3⟩, h4⟩
  have HB1 := Lib.hid h2
  have H1 := Lib.hid h3
  have c0 := h3.c0
  have fz := h3.fz
  have hlen : (bs ++ num s.size).length + s.size ≤ 10000000000000 := by rw [List.length_append]; omega
  clear h2 h3 HN
  generalize hb1 : bs ++ num s.size = bs1 at *
  have HB2 := Lib.hid hb1; clear hb1
  go_wp2_with fail
  go_region_law (refine step_text rfl _ _ rfl lo ob v1 bs1 (by first | exact H1.out | exact H1.out.drew | exact H1.out.drew.drew | exact H1.out.drewN _) rfl s rfl (by assumption) ?_; intro q m c w5 hown hgrow k0 kf)
  all_goals
    go_wp2_with fail
    go_end0
    have hgr := H1.out.grow (v' := .slice q m c) (bs' := bs1 ++ s.data.toList) (by rw [List.length_append, List.map_append, Array.length_toList]; exact hown) (show w1.grownBy w5 _ from ⟨hgrow.os, hgrow.tape, hgrow.output, hgrow.size, hgrow.block⟩)
    exact ⟨rfl, HB1.out.trans (hgr.2.below H1.out.lo H1.out.rows H1.out.base), _, by rw [← List.append_assoc, HB2.out]; exact hgr.1⟩
end Go.Proofs.Ytopkpdaingmmeaa
