/- The specification's reader: a text. -/
import Derived.Test.YtopkpdaingmmeaaVRdr4
import Derived.Test.YtopkpdaingmmeaaVDecode
import Derived.Deep.RegionHeld3
import Derived.StillTailTactics
namespace Go.Proofs.Ytopkpdaingmmeaa
open Go.RowKit

theorem drew_eta (w : World) : ({ heap := w.heap, tape := w.tape, drawn := w.drawn + 1, os := w.os, output := w.output } : World) = w.drew := rfl

set_option maxHeartbeats 4000000 in
set_option maxRecDepth 100000 in
theorem refValue_text (d dd : Nat) (w : World) (lo rb : Nat) (p : Option Addr) (cap : Nat) (bs : List UInt8) (at' : Nat) (h : Rdr w lo rb p cap bs at' false) (hlt : at' < bs.length) (h1 : bs[at'].toNat = 2) :
    Calls Try.prog 36 #[.pointer (some ⟨rb, 0, none⟩), .int .i64 dd] w (RVal w lo rb p cap bs (rdV d (bs.drop at'))) := by
  have HRD : Hid (rdV d (bs.drop at') = match rdNum 0 0 (bs.drop (at' + 1)) with | none => none | some (u, r') => if r'.length < u then none else some (.mk 2 0 ⟨(r'.take u).toArray⟩ [], r'.drop u)) := Lib.hid (by rw [List.drop_eq_getElem_cons hlt, rdV.eq_def]; dsimp only; rw [if_neg (by omega), if_pos h1]; rfl)
  have HN : Hid (∀ o, Calls Try.prog 53 #[.pointer (some ⟨rb, 0, none⟩)] (w.alloc o) fun e w' => e = .returned (.int .u8 2) ∧ Rdr w' lo rb p cap bs (at' + 1) false ∧ Kept (w.alloc o) w' rb none) := Lib.hid fun o => by
    have := next_yes (w.alloc o) lo rb p cap bs at' false (h.bel ((Below.refl w.heap.size w).alloc (Nat.le_refl _) o) (Nat.le_refl _)) hlt
    rw [h1] at this
    exact this
  have hrb := h.lt
  have hlen := h.len
  clear h h1
  go_enter Try.func36, Try.ntmps36
  go_wp2_with fail
  go_at_call 53
  refine (HN.out _).mono ?_
  rintro e w1 ⟨rfl, hr1, hk1⟩
  have HC := Lib.hid (refNumber_any w1 lo rb p cap bs (at' + 1) hr1)
  have HK1 := Lib.hid ((Kept.alloc w rb none zbox).trans hk1 (.inl rfl))
  have HZ1 := Lib.hid ((Zb.new w).kept hk1 (Nat.ne_of_gt hrb))
  clear hr1 hk1 HN
  generalize rdNum 0 0 (bs.drop (at' + 1)) = o at *
  go_wp2_with fail
  go_at_call 54
  refine HC.out.mono ?_
  rintro e w2 ⟨hk2, he⟩
  have HK2 := Lib.hid (HK1.out.trans hk2 (.inl rfl))
  have HZ2 := Lib.hid (HZ1.out.kept hk2 (Nat.ne_of_gt hrb))
  obtain ⟨⟨a0, a1, a2, a3⟩, ⟨f0, f1, f2, f3⟩, hbz⟩ := HZ2.out
  have hne : ¬ w.heap.size = rb := Nat.ne_of_gt hrb
  have hne2 : ¬ rb = w.heap.size := fun e => hne e.symm
  clear hk2 HC HK1
  cases o with
  | none =>
    obtain ⟨rfl, at2, hr2⟩ := he
    have HRN : Hid (∀ j, Rdr (w2.drewN j) lo rb p cap bs at2 true) := Lib.hid fun j => hr2.same (Nat.le_refl _) fun _ _ => rfl
    have HFN : Hid (∀ j, Rdr ((w2.drewN j).setCell ⟨rb, 2, none⟩ (.bool true)) lo rb p cap bs at2 true ∧ Kept (w2.drewN j) ((w2.drewN j).setCell ⟨rb, 2, none⟩ (.bool true)) rb none) := Lib.hid fun j => (HRN.out j).failed
    have ZbN : Hid (∀ j, Zb (w2.drewN j) w.heap.size) := Lib.hid fun j => HZ2.out
    obtain ⟨_, _, q0, q1, q2, q4, q5, _, _, _, _⟩ := hr2
    generalize bs.length = len at *
    go_wp2_with fail
    go_quiet (fail)
    have HF5 := HFN.out nq
    have q6 := (HRN.out nq).c2
    have q7 := (HRN.out nq).f2
    have HZ5 := ZbN.out nq
    obtain ⟨⟨a0, a1, a2, a3⟩, ⟨f0, f1, f2, f3⟩, _⟩ := id HZ5
    have HKN : Hid (∀ j, Kept w (w2.drewN j) rb none) := Lib.hid fun j => ⟨HK2.out.os, HK2.out.tape, HK2.out.output, HK2.out.size, HK2.out.block⟩
    go_wp2_with fail
    have HC4 := wr4_cells (HZ5.kept HF5.2 (Nat.ne_of_gt hrb)) (.int .i64 0) (.int .i64 0) (.string ⟨#[]⟩) (.slice none 0 0)
    have HK4 := wr4_kept (.int .i64 0) (.int .i64 0) (.string ⟨#[]⟩) (.slice none 0 0) ((HKN.out nq).trans HF5.2 (.inl rfl)) (Nat.le_refl _)
    have HR4 := wr4_rdr (b := w.heap.size) (.int .i64 0) (.int .i64 0) (.string ⟨#[]⟩) (.slice none 0 0) HF5.1 hrb
    obtain ⟨z0, z1, z2, z3⟩ := HC4
    unfold wr4 at *
    refine bodyPost_ret (v := .agg #[.int .i64 0, .int .i64 0, .string ⟨#[]⟩, .slice none 0 0]) ?_ rfl ?_
    · simp [results, Try.results36, go_sem, z0, z1, z2, z3]
    · refine ⟨HK4, .mk 0 0 ⟨#[]⟩ [], none, 0, rfl, VIn.leaf (by unfold Fit64; omega) (by unfold Fit64; omega) (by decide), ?_⟩
      rw [HRD.out]
      exact ⟨at2, HR4⟩
  | some q =>
    obtain ⟨u, r⟩ := q
    obtain ⟨rfl, hu, at2, rfl, hr2⟩ := he
    have HR2 := Lib.hid hr2
    have HF := Lib.hid hr2.failed
    obtain ⟨_, _, q0, q1, q2, q4, q5, hle2, _, hroom, _⟩ := hr2
    have hdl : (bs.drop at2).length = bs.length - at2 := List.length_drop
    generalize hL : bs.length = len at *
    have hw1 : IntKind.i64.wrap ((len : Int) - (at2 : Int)) = (len : Int) - (at2 : Int) := by simp [IntKind.wrap, IntKind.bits, IntKind.signed]; omega
    have hw2 : IntKind.u64.wrap ((len : Int) - (at2 : Int)) = (len : Int) - (at2 : Int) := by rw [IntKind.wrap_u64]; omega
    by_cases hbig : len - at2 < u
    · have g1 : (len : Int) - (at2 : Int) < (u : Int) := by omega
      go_wp2_with fail
      go_region_held3 (fun w' => w'.cell? ⟨rb, 0, none⟩ = some (.slice p len cap) ∧ w'.cell? ⟨rb, 1, none⟩ = some (.int .i64 at2) ∧ w'.cell? ⟨rb, 2, none⟩ = some (.bool false)) (first | exact ⟨q0, q1, q2⟩ | assumption) (fail)
      go_wp2_with fail
      have HC4 := wr4_cells (HZ2.out.kept HF.out.2 (Nat.ne_of_gt hrb)) (.int .i64 0) (.int .i64 0) (.string ⟨#[]⟩) (.slice none 0 0)
      have HK4 := wr4_kept (.int .i64 0) (.int .i64 0) (.string ⟨#[]⟩) (.slice none 0 0) (HK2.out.trans HF.out.2 (.inl rfl)) (Nat.le_refl _)
      have HR4 := wr4_rdr (b := w.heap.size) (.int .i64 0) (.int .i64 0) (.string ⟨#[]⟩) (.slice none 0 0) HF.out.1 hrb
      obtain ⟨z0, z1, z2, z3⟩ := HC4
      have HNO : rdV d (bs.drop at') = none := HRD.out.trans (if_pos (by omega))
      unfold wr4 at *
      refine bodyPost_ret (v := .agg #[.int .i64 0, .int .i64 0, .string ⟨#[]⟩, .slice none 0 0]) ?_ rfl ?_
      · simp [results, Try.results36, go_sem, z0, z1, z2, z3]
      · refine ⟨HK4.drew, .mk 0 0 ⟨#[]⟩ [], none, 0, rfl, VIn.leaf (by unfold Fit64; omega) (by unfold Fit64; omega) (by decide), ?_⟩
        rw [HNO]
        exact ⟨at2, HR4.drew⟩
    · have g1 : ¬ (len : Int) - (at2 : Int) < (u : Int) := by omega
      go_wp2_with fail
      go_region_held3 (fun w' => w'.cell? ⟨rb, 0, none⟩ = some (.slice p len cap) ∧ w'.cell? ⟨rb, 1, none⟩ = some (.int .i64 at2) ∧ w'.cell? ⟨rb, 2, none⟩ = some (.bool false)) (first | exact ⟨q0, q1, q2⟩ | assumption) (fail)
      have HM : Hid (Rdr ((w2.setCell ⟨rb, 1, none⟩ (.int .i64 ((at2 : Int) + (u : Int)))).drew.drew) lo rb p cap bs (at2 + u) false ∧ Kept w2 ((w2.setCell ⟨rb, 1, none⟩ (.int .i64 ((at2 : Int) + (u : Int)))).drew.drew) rb none) := Lib.hid (by
        have := HR2.out.moved (at2 + u) (by omega)
        rw [Int.natCast_add] at this
        exact ⟨this.1.drew.drew, this.2.drew.drew⟩)
      have hw3 : IntKind.i64.wrap ((at2 : Int) + (u : Int)) = (at2 : Int) + (u : Int) := by rw [IntKind.wrap_i64]; omega
      have hw4 : IntKind.i64.wrap ((at2 : Int) + (u : Int) - (u : Int)) = (at2 : Int) := by rw [IntKind.wrap_i64]; omega
      have hw5 : IntKind.i64.wrap (u : Int) = (u : Int) := by rw [IntKind.wrap_i64]; omega
      have w0 : (0 : Int) ≤ (at2 : Int) := by omega
      have hw6 : IntKind.i64.wrap (at2 : Int) = (at2 : Int) := by rw [IntKind.wrap_i64]; omega
      have hw7 : ((at2 : Int) + (u : Int)).toNat - at2 = u := by omega
      have w3' : (0 : Int) ≤ (at2 : Int) + (u : Int) := by omega
      have w4' : (at2 : Int) ≤ max ((at2 : Int) + (u : Int)) 0 := by omega
      have w1' : (at2 : Int) ≤ (at2 : Int) + (u : Int) := by omega
      have w2' : (at2 : Int) + (u : Int) ≤ (cap : Int) := by omega
      go_wp2_with fail
      generalize (w2.setCell ⟨rb, 1, none⟩ (.int .i64 ((at2 : Int) + (u : Int)))).drew = w3 at *
      refine wp_region_still_tail 18 (by kernel_rfl) (by kernel_rfl) ?_
      simp only [List.take_succ_cons, List.take_zero, List.drop_succ_cons, List.drop_zero, drew_eta]
      have HZ4 := Lib.hid (HZ2.out.kept HM.out.2 (Nat.ne_of_gt hrb))
      generalize w3.drew = w4 at *
      clear a0 a1 a2 a3 f0 f1 f2 f3 q0 q1 q2 q4 q5 hbz
      obtain ⟨⟨a0, a1, a2, a3⟩, ⟨f0, f1, f2, f3⟩, hbz⟩ := HZ4.out
      have q0 := HM.out.1.c0
      have q1 := HM.out.1.c1
      rw [hL] at q0
      rw [Int.natCast_add] at q1
      have htl : ((bs.drop at2).take u).length = u := by rw [List.length_take, hdl]; omega
      have hcv := strOf_bytes w4 lo (if cap = at2 then p else Option.map (fun x => x.add at2) p) ((bs.drop at2).take u) ((HM.out.1.lies.drop at2 (fun hlt b off e => by rw [if_neg (by omega), e]; simp [Addr.add])).take u) (cap - at2) 9 Try.underlying9
      rw [htl] at hcv
      repeat still_step
      try refine wpStill_nil ?_
      have HYES : Hid (rdV d (bs.drop at') = some (.mk 2 0 ⟨((bs.drop at2).take u).toArray⟩ [], (bs.drop at2).drop u)) := Lib.hid (HRD.out.trans (if_neg (by omega)))
      have HSZ : Hid ((⟨((bs.drop at2).take u).toArray⟩ : ByteArray).size ≤ 140737488351232) := Lib.hid (by show ((bs.drop at2).take u).toArray.size ≤ _; rw [List.size_toArray, htl]; omega)
      have HK4 := Lib.hid (HK2.out.trans HM.out.2 (.inl rfl))
      have HR4 := Lib.hid HM.out.1
      clear hcv HRD HM HR2 htl q0 q1
      generalize (⟨((bs.drop at2).take u).toArray⟩ : ByteArray) = S at *
      generalize (if cap = at2 then p else Option.map (fun x => x.add at2) p) = qq at *
      go_wp2_with fail
      have HC4 := wr4_cells HZ4.out (.int .i64 2) (.int .i64 0) (.string S) (.slice none 0 0)
      have HK5 := wr4_kept (.int .i64 2) (.int .i64 0) (.string S) (.slice none 0 0) HK4.out (Nat.le_refl _)
      have HR5 := wr4_rdr (b := w.heap.size) (.int .i64 2) (.int .i64 0) (.string S) (.slice none 0 0) HR4.out hrb
      obtain ⟨z0, z1, z2, z3⟩ := HC4
      unfold wr4 at *
      refine bodyPost_ret (v := .agg #[.int .i64 2, .int .i64 0, .string S, .slice none 0 0]) ?_ rfl ?_
      · simp [results, Try.results36, go_sem, z0, z1, z2, z3]
      · refine ⟨HK5, .mk 2 0 S [], none, 0, rfl, VIn.leaf (by unfold Fit64; omega) (by unfold Fit64; omega) HSZ.out, ?_⟩
        rw [HYES.out]
        exact ⟨rfl, at2 + u, by rw [List.drop_drop], HR5⟩
end Go.Proofs.Ytopkpdaingmmeaa
