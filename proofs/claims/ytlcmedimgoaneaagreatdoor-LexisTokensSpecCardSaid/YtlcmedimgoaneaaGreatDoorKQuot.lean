/- The program's quoted. -/
import Derived.Test.YtlcmedimgoaneaaGreatDoorKWrit
namespace Go.Proofs.YtlcmedimgoaneaaGreatDoor
open Go.RowKit

def quotB (l : Bs) : Bs := 34 :: (l.flatMap seqB ++ [34])
def okQ (l : Bs) : Bool := l.all fun c => seqB c != []
theorem seqB_len (c : UInt8) : (seqB c).length ≤ 2 := by
  unfold seqB
  split; · simp
  split; · simp
  split; · simp
  split <;> simp
theorem okQ_take {l : Bs} {j : Nat} (h : j < l.length) : okQ (l.take (j + 1)) = (okQ (l.take j) && (seqB l[j] != [])) := all_take (p := fun c => seqB c != []) h
theorem flat_take {l : Bs} {j : Nat} (h : j < l.length) : (l.take (j + 1)).flatMap seqB = (l.take j).flatMap seqB ++ seqB l[j] := by
  rw [List.take_succ_eq_append_getElem h, List.flatMap_append]; simp
theorem flat_len : ∀ l : Bs, (l.flatMap seqB).length ≤ 2 * l.length
  | [] => by simp
  | c :: l => by
    have := flat_len l
    have := seqB_len c
    rw [List.flatMap_cons, List.length_append, List.length_cons]; omega
theorem okQ_false {l : Bs} {j : Nat} (h : j < l.length) (hc : seqB l[j] = []) : okQ l = false := by
  cases ho : okQ l with
  | false => rfl
  | true =>
    have := List.all_eq_true.1 ho l[j] (List.getElem_mem h)
    rw [hc] at this
    exact absurd this (by decide)
def quotR (l : Bs) : ByteArray := if okQ l = true then S (quotB l) else S []
set_option maxHeartbeats 1000000 in
set_option maxRecDepth 100000 in
theorem quoted_any (l : Bs) (hb : l.length ≤ 100000) (w : World) (hG : Gl w) :
    Calls Tryz.prog 71 #[.string (S l)] w fun e w' => e = .returned (.tuple #[.string (quotR l), .bool (okQ l)]) ∧ Below w.heap.size w w' := by
  have HY : Hid (okQ l = true → quotR l = S (quotB l)) := Lib.hid fun h => by unfold quotR; rw [if_pos h]
  have HZ : Hid (okQ l = false → quotR l = S []) := Lib.hid fun h => by unfold quotR; rw [h]; rfl
  generalize quotR l = R at *
  have hsz := S_size l
  have HG := Lib.hid hG
  clear hG
  go_enter Tryz.func71, Tryz.ntmps71
  go_wp2_with fail
  go_loopw [4, 10] (fun v i wr => ∃ j : Nat, j ≤ l.length ∧ i = .int .i64 j ∧ Hid (okQ (l.take j) = true) ∧ Hid (Row wr w.heap.size v (34 :: (l.take j).flatMap seqB)) ∧ Hid (Below w.heap.size w wr)) (fun _ i _ => l.length - (intOf i).toNat)
  case atStart => exact ⟨0, Nat.zero_le _, rfl, Lib.hid rfl, Lib.hid (Row.one w 34), Lib.hid ((Below.refl _ _).alloc (Nat.le_refl _) _)⟩
  case round =>
    obtain ⟨j, hj, rfl, HO, HR, HB⟩ := hrel
    by_cases hlt : j < l.length
    · have hps : j < (S l).size := by omega
      have hpi : (j : Int) < (l.length : Int) := by omega
      have HGt := Lib.hid (S_get l j hps)
      have HC := sequence_any (l[j]'hlt) wr (HG.out.bel' HB.out)
      rw [← HGt.out] at HC
      have HC := Lib.hid HC
      have HT := Lib.hid (okQ_take hlt)
      have HF := Lib.hid (flat_take hlt)
      have HN := Lib.hid (okQ_false (l := l) hlt)
      have hfl := flat_len (l.take j)
      rw [List.length_take] at hfl
      have hsl := seqB_len (l[j]'hlt)
      rw [← HGt.out] at HT HF HN hsl
      have hss := S_size (seqB ((S l)[j]'hps))
      generalize hq : seqB ((S l)[j]'hps) = q at *
      by_cases hq0 : q = []
      · subst hq0
        have ht := S_nil
        have HN2 := Lib.hid (HN.out rfl)
        go_wp2_with fail
        go_at_call 95
        refine HC.out.mono ?_
        rintro e w1 ⟨rfl, hb'⟩
        have HB1 := Lib.hid (HB.out.trans (hb'.mono HB.out.size)); clear hb'
        go_wp2_with fail
        go_ret2
        rw [HN2.out, HZ.out HN2.out]
        exact ⟨rfl, HB1.out⟩
      · have hne := S_ne q (List.length_pos_iff.2 hq0)
        have HO2 : Hid (okQ (l.take (j + 1)) = true) := Lib.hid (by rw [HT.out, HO.out]; simp [hq0])
        clear hq0
        go_wp2_with fail
        go_at_call 95
        refine HC.out.mono ?_
        rintro e w1 ⟨rfl, hb'⟩
        have HB1 := Lib.hid (HB.out.trans (hb'.mono HB.out.size))
        have HR1 := Lib.hid (HR.out.bel hb' (Nat.le_refl _)); clear hb'
        have hn : (34 :: (l.take j).flatMap seqB).length + (S q).size ≤ 10000000000000 := by rw [List.length_cons]; omega
        have hlo : w.heap.size ≤ w1.heap.size := HB1.out.size
        go_wp2_with (refine wpList_appText rfl _ _ rfl w.heap.size _ _ HR1.out rfl (S q) rfl hn hlo ?_; intro v2 w2 hr2 hb2 hsz2)
        have HR2 : Hid (Row w2 w.heap.size v2 (34 :: (l.take (j + 1)).flatMap seqB)) := Lib.hid (by rw [HF.out]; rw [S_data] at hr2; exact hr2)
        have HB2 := Lib.hid (HB1.out.trans hb2)
        go_round
        case rel => exact ⟨j + 1, by omega, by go_num, HO2, HR2, HB2⟩
        case measure => simp [intOf]; omega
    · have hpi : ¬ (j : Int) < (l.length : Int) := by omega
      have HOL : Hid (okQ l = true) := Lib.hid (by have := HO.out; rwa [List.take_of_length_le (by omega)] at this)
      have HRL : Hid (Row wr w.heap.size _ (34 :: l.flatMap seqB)) := Lib.hid (by have := HR.out; rwa [List.take_of_length_le (by omega)] at this)
      have hfl := flat_len l
      have HRA : Hid (∀ o, Row (wr.alloc o) w.heap.size _ (34 :: l.flatMap seqB)) := Lib.hid fun o => HRL.out.bel ((Below.refl wr.heap.size wr).alloc (Nat.le_refl _) o) (Nat.le_refl _)
      have H1 := Lib.hid (Row.one wr 34)
      have hn : (34 :: l.flatMap seqB).length + [(34 : UInt8)].length ≤ 10000000000000 := by rw [List.length_cons, List.length_singleton]; omega
      have hlo : w.heap.size ≤ (wr.alloc (.cells #[.int .u8 (34 : UInt8).toNat] 5)).heap.size := by have := HB.out.size; simp; omega
      go_wp2_with (refine wpList_appRow rfl _ _ rfl w.heap.size _ _ (HRA.out _) rfl _ _ _ H1.out rfl Nat.zero_lt_one hn hlo ?_; intro v2 w2 hr2 hb2 hsz2; have hcv := strRow hr2)
      go_ret2
      rw [HOL.out, HY.out HOL.out]
      exact ⟨rfl, (HB.out.alloc HB.out.size _).trans hb2⟩
end Go.Proofs.YtlcmedimgoaneaaGreatDoor
