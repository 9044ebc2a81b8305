/- The specification's encoding of a value. -/
import Derived.Test.YtopkpdaingmmeaaVRefNum
import Derived.Test.YtopkpdaingmmeaaVSize
import Derived.Deep.RegionHeld3
namespace Go.Proofs.Ytopkpdaingmmeaa
open Go.RowKit

/-- What stands in a text's region. -/
def HeldB (w : World) (k n : Int) (s : ByteArray) (sl : Value) (w' : World) : Prop := Below w.heap.size w w' ∧ Box w' w.heap.size k n s sl
theorem HeldB.start {w w1 : World} {k n : Int} {s : ByteArray} {sl : Value} (h : w1 = w.alloc (.cells #[.int .i64 k, .int .i64 n, .string s, sl] 24)) : HeldB w k n s sl w1.drew := by
  subst h
  exact ⟨((Below.refl w.heap.size w).alloc (Nat.le_refl _) _).drew, (Box.new w k n s sl).bel (m := w.heap.size + 1) (Below.refl _ _).drew (Nat.lt_succ_self _)⟩
theorem HeldB.bel {w w1 w2 : World} {k n : Int} {s : ByteArray} {sl : Value} {m : Nat} (h : HeldB w k n s sl w1) (hb : Below m w1 w2) (hm : w.heap.size < m) : HeldB w k n s sl w2 :=
  ⟨h.1.trans (hb.mono (Nat.le_of_lt hm)), h.2.bel hb hm⟩
theorem HeldB.alloc {w w1 : World} {k n : Int} {s : ByteArray} {sl : Value} (h : HeldB w k n s sl w1) (o : Obj) : HeldB w k n s sl (w1.alloc o) := h.bel ((Below.refl w1.heap.size w1).alloc (Nat.le_refl _) o) h.2.lt
theorem HeldB.alloc' {w w1 : World} {k n : Int} {s : ByteArray} {sl : Value} (h : HeldB w k n s sl w1.drew) (o : Obj) : HeldB w k n s sl (w1.alloc o).drew := h.alloc o
theorem HeldB.bel' {w w1 w2 : World} {k n : Int} {s : ByteArray} {sl : Value} (h : HeldB w k n s sl w1) (hb : Below w1.heap.size w1 w2) : HeldB w k n s sl w2 := h.bel hb h.2.lt
theorem HeldB.of {w w1 : World} {k n : Int} {s : ByteArray} {sl : Value} (h : w1.cell? ⟨w.heap.size, 2, none⟩ = some (.string s) ∧ Hid (HeldB w k n s sl w1)) : HeldB w k n s sl w1 := h.2.out
theorem HeldB.up {w w1 : World} {k n : Int} {s : ByteArray} {sl : Value} (h : w1.cell? ⟨w.heap.size, 2, none⟩ = some (.string s) ∧ Hid (HeldB w k n s sl w1)) : w.heap.size + 1 ≤ w1.heap.size := h.2.out.2.lt
theorem HeldB.keep {w w1 : World} {k n : Int} {s : ByteArray} {sl : Value} (h : HeldB w k n s sl w1) : w1.cell? ⟨w.heap.size, 2, none⟩ = some (.string s) ∧ Hid (HeldB w k n s sl w1) := ⟨h.2.c2, Lib.hid h⟩
theorem Row.two (w : World) : Row (w.alloc (.cells #[.int .u8 2] 5)) w.heap.size (.slice (some ⟨w.heap.size, 0, none⟩) 1 1) [UInt8.ofNat 2] := Row.one w 2 (by decide) (by decide)

set_option maxRecDepth 100000 in
set_option maxHeartbeats 2000000 in
theorem refEncode_rank (N : Nat) : ∀ (v : V), rank v ≤ N → (enc v).length ≤ 1000000000000 → ∀ (w : World) (B : Nat) (p : Option Addr) (cap : Nat), VAt w B v p cap →
    Calls Try.prog 29 #[vV v p cap] w fun e w' => ∃ r, e = .returned r ∧ Row w' w.heap.size r (enc v) ∧ Below w.heap.size w w' := by
  induction N with
  | zero => intro v hv; obtain ⟨k, n, s, l⟩ := v; rw [rank_mk] at hv; omega
  | succ N ih =>
    intro v hv hlen w B p cap h
    obtain ⟨k, n, s, l⟩ := v
    have hrl : ∀ x ∈ l, rank x ≤ N := fun x hx => by have := rank_lt k n s l x hx; omega
    have hll := h.len
    have hl := h.list
    have hn : Fit64 n := h.fitN
    have hs : s.size ≤ 140737488351232 := h.sizeS
    change LAt w B l p cap at hl
    change l.length ≤ 2600000000000 at hll
    show Calls Try.prog 29 #[.agg #[.int .i64 k, .int .i64 n, .string s, .slice p l.length cap]] w _
    have HB := Lib.hid (Below.refl w.heap.size w)
    have HN : Hid (∀ (u : Nat) (wr : World), u < 18446744073709551616 → Calls Try.prog 44 #[.int .u64 u] wr fun e w' => ∃ v, e = .returned v ∧ Row w' wr.heap.size v (num u) ∧ Below wr.heap.size wr w') := Lib.hid fun u wr hu => refNumeral_any u hu wr
    have HR : Hid (∀ (x : Nat) (o : Obj), x < 4 → Row ((w.alloc o).alloc (.cells #[.int .u8 x] 5)) (w.heap.size + 1) (.slice (some ⟨w.heap.size + 1, 0, none⟩) 1 1) [UInt8.ofNat x]) := Lib.hid fun x o hx => by
      have := Row.one (w.alloc o) x (by omega) (by omega)
      rwa [World.size_alloc, Int.toNat_natCast] at this
    have HBB : Hid (∀ o o', Below w.heap.size w ((w.alloc o).alloc o')) := Lib.hid fun o o' => (HB.out.alloc (Nat.le_refl _) o).alloc (by simp) o'
    have HX : Hid (∀ o', Box ((w.alloc (.cells #[.int .i64 k, .int .i64 n, .string s, .slice p l.length cap] 24)).alloc o') w.heap.size k n s (.slice p l.length cap)) := Lib.hid fun o' => (Box.new w k n s _).bel ((Below.refl _ _).alloc (Nat.le_refl _) o') (by simp)
    have HL := Lib.hid hl
    clear h hl
    by_cases h1 : k = 1
    · subst h1
      have HE : Hid (enc (.mk 1 n s l) = [UInt8.ofNat 1] ++ num (uns n)) := Lib.hid (by rw [enc, if_pos rfl]; rfl)
      have HU : Hid (∀ wr, Calls Try.prog 45 #[.int .i64 n] wr fun e w' => e = .returned (.int .u64 (uns n)) ∧ w' = wr) := Lib.hid fun wr => refUnsigned_any n wr hn
      have HNU := Lib.hid (fun wr => HN.out (uns n) wr ((uns_fit n).2 hn))
      have HRR := Lib.hid (fun o => HR.out 1 o (by omega))
      have hp1 := num_pos (uns n)
      have hp2 := num_le (uns n) ((uns_fit n).2 hn)
      clear HN HR HL HX ih hrl
      generalize enc (.mk 1 n s l) = en at *
      generalize uns n = u at *
      generalize l.length = ll at *
      go_enter Try.func29, Try.ntmps29
      go_wp2_with fail
      go_at_call 45
      refine (HU.out _).mono ?_
      rintro e w1 ⟨rfl, rfl⟩
      go_wp2_with fail
      go_at_call 44
      refine (HNU.out _).mono ?_
      rintro e w1 ⟨v1, rfl, hr1, hb1⟩
      have HR1 := Lib.hid hr1
      have HQ := Lib.hid ((HRR.out _).bel hb1 (Nat.le_refl _))
      have HB1 := Lib.hid ((HBB.out _ _).trans (hb1.mono (HBB.out _ _).size))
      have hsz : w.heap.size + 1 ≤ w1.heap.size := by have := hb1.size; simp at this; omega
      clear hr1 hb1
      go_wp2_with (refine wpList_appRow rfl _ _ rfl (w.heap.size + 1) _ _ HQ.out rfl _ _ _ HR1.out rfl hp1 (by simp; omega) hsz ?_; intro v2 w2 hr2 hb2)
      go_ret
      refine ⟨_, rfl, ?_, HB1.out.trans (hb2.mono (by omega))⟩
      rw [HE.out]
      exact hr2.mono (by omega)
    by_cases h2 : k = 2
    · subst h2
      have HE : Hid (enc (.mk 2 n s l) = [UInt8.ofNat 2] ++ num s.size ++ s.data.toList) := Lib.hid (by rw [enc, if_neg (by decide), if_pos rfl]; rfl)
      have HNU := Lib.hid (fun wr => HN.out s.size wr (by omega))
      have HRR := Lib.hid (fun o => HR.out 2 o (by omega))
      have hp1 := num_pos s.size
      have hp2 := num_le s.size (by omega)
      have hlen2 : s.size ≤ 1000000000000 := by
        have := HE.out ▸ hlen
        simp only [List.length_append, Array.length_toList] at this
        have e : s.data.size = s.size := rfl
        omega
      clear HN HR HL ih hrl
      generalize enc (.mk 2 n s l) = en at *
      generalize l.length = ll at *
      go_enter Try.func29, Try.ntmps29
      have HRL : Hid (∀ wr : World, wr.heap.size = w.heap.size + 1 → Row (wr.alloc (.cells #[.int .u8 2] 5)) (w.heap.size + 1) (.slice (some ⟨w.heap.size + 1, 0, none⟩) 1 1) [UInt8.ofNat 2]) := Lib.hid fun wr hw => by
        have := Row.two wr
        rwa [hw] at this
      have hwr : IntKind.u64.wrap (s.size : Int) = (s.size : Int) := by simp [IntKind.wrap, IntKind.bits, IntKind.signed]; omega
      have HLT := Lib.hid (Nat.lt_succ_self w.heap.size)
      have HX1 : Hid (∀ o w', Below ((w.alloc o).drew).heap.size (w.alloc o).drew w' → w.heap.size + 1 ≤ w'.heap.size) := Lib.hid fun o w' hb => by
        have := hb.size
        simpa using this
      have HLE : Hid (([UInt8.ofNat 2] : List UInt8).length + (num s.size).length ≤ 10000000000000) := Lib.hid (by simp; omega)
      have HLE2 : Hid (([UInt8.ofNat 2] ++ num s.size : List UInt8).length + s.size ≤ 10000000000000) := Lib.hid (by simp; omega)
      go_wp2_with fail
      go_region_held3 (fun w' => w'.cell? ⟨w.heap.size, 2, none⟩ = some (.string s) ∧ Hid (HeldB w 2 n s (.slice p ll cap) w'))
        (first
          | with_reducible exact (HeldB.start rfl).keep
          | with_reducible exact ((HeldB.of (by assumption)).bel hb3 HLT.out).keep
          | with_reducible exact ((HeldB.of (by assumption)).bel hb2 HLT.out).keep
          | with_reducible exact ((HeldB.of (by assumption)).bel' hb1).keep
          | with_reducible exact ((HeldB.of (by assumption)).alloc _).keep
          | with_reducible exact ((HeldB.of (by assumption)).alloc' _).keep
          | assumption)
        (first
          | (go_at_call 44; refine (HNU.out _).mono ?_; rintro e w1 ⟨v1, rfl, hr1, hb1⟩; (try with_reducible have RA := ((HRL.out _ (by simp)).bel (Below.refl _ _).drew (Nat.le_refl _)).bel hb1 (Nat.le_refl _)))
          | (refine step_appRow rfl _ _ rfl (w.heap.size + 1) _ [UInt8.ofNat 2] RA rfl _ _ (num s.size) hr1 rfl hp1 HLE.out (HeldB.up (k := 2) (n := n) (s := s) (sl := .slice p ll cap) (by assumption)) ?_; intro v2 w2 hr2 hb2)
          | (refine step_appRow rfl _ _ rfl (w.heap.size + 1) _ [UInt8.ofNat 2] ((Row.two _).mono (HX1.out _ _ hb1)) rfl _ _ (num s.size) (hr1.bel ((Below.refl _ _).alloc (Nat.le_refl _) _) (Nat.le_refl _)) rfl hp1 HLE.out (HeldB.up (k := 2) (n := n) (s := s) (sl := .slice p ll cap) (by assumption)) ?_; intro v2 w2 hr2 hb2)
          | (refine step_appText rfl _ _ rfl (w.heap.size + 1) _ ([UInt8.ofNat 2] ++ num s.size) hr2 rfl s rfl HLE2.out (HeldB.up (k := 2) (n := n) (s := s) (sl := .slice p ll cap) (by assumption)) ?_; intro v3 w3 hr3 hb3))
      all_goals (go_wp2_with fail; go_ret; refine ⟨_, rfl, ?_, (HeldB.of (k := 2) (n := n) (s := s) (sl := .slice p ll cap) (by assumption)).1⟩; rw [HE.out]; exact hr3.mono (by omega))
    · have HE : Hid (enc (.mk k n s l) = [UInt8.ofNat 3] ++ num l.length ++ encL l) := Lib.hid (by rw [enc, if_neg h1, if_neg h2]; rfl)
      have HNU := Lib.hid (fun wr => HN.out l.length wr (by omega))
      have HRR := Lib.hid (fun o => HR.out 3 o (by omega))
      have hp1 := num_pos l.length
      have hp2 := num_le l.length (by omega)
      clear HN HR
      go_enter Try.func29, Try.ntmps29
      go_wp2_with fail
      go_at_call 44
      refine (HNU.out _).mono ?_
      rintro e w1 ⟨v1, rfl, hr1, hb1⟩
      have HR1 := Lib.hid hr1
      have HQ := Lib.hid ((HRR.out _).bel hb1 (Nat.le_refl _))
      have HB1 := Lib.hid ((HBB.out _ _).trans (hb1.mono (HBB.out _ _).size))
      have hsz : w.heap.size + 1 ≤ w1.heap.size := by have := hb1.size; simp at this; omega
      have HX1 := Lib.hid ((HX.out _).bel hb1 (by simp <;> omega))
      obtain ⟨x0, c0, c1, c2, c3⟩ := HX1.out
      clear hr1 hb1
      go_wp2_with (refine wpList_appRow rfl _ _ rfl (w.heap.size + 1) _ _ HQ.out rfl _ _ _ HR1.out rfl hp1 (by simp; omega) hsz ?_; intro v2 w2 hr2 hb2)
      have hsz2 := Nat.le_trans hsz hb2.size
      have HX2 := Lib.hid (HX1.out.bel hb2 (Nat.lt_succ_self _))
      have HB2 := Lib.hid (HB1.out.trans (hb2.mono (by omega)))
      have HR2 := Lib.hid hr2
      clear hr2 hb2 x0 c0 c1 c2 c3 HB1 HX1 HR1 HQ
      go_loopw [3, 4] (fun r i wr => ∃ j : Nat, j ≤ l.length ∧ i = .int .i64 j ∧ Hid (Row wr (w.heap.size + 1) r ([UInt8.ofNat 3] ++ num l.length ++ encL (l.take j))) ∧ Hid (Below w.heap.size w wr ∧ w.heap.size + 1 ≤ wr.heap.size ∧ Box wr w.heap.size k n s (.slice p l.length cap))) (fun _ i _ => l.length - (intOf i).toNat)
      case atStart => exact ⟨0, Nat.zero_le _, rfl, Lib.hid (by rw [List.take_zero, encL, List.append_nil]; exact HR2.out), Lib.hid ⟨HB2.out, hsz2, HX2.out⟩⟩
      case round =>
        obtain ⟨j, hj, rfl, HF, HB3⟩ := hrel
        obtain ⟨b0, c0, c1, c2, c3⟩ := HB3.out.2.2
        by_cases hlt : j < l.length
        · obtain ⟨b, off, q, c, rfl, hbs, e0, e1, e2, e3, hx⟩ := HL.out.elem HB3.out.1 j hlt
          have hel : (enc l[j]).length ≤ (encL l).length := encL_mem l _ (List.getElem_mem hlt)
          have hle := encL_take_le l j
          have hlen2 : 1 + (num l.length).length + (encL l).length ≤ 1000000000000 := by
            have := HE.out ▸ hlen
            simp only [List.length_append, List.length_singleton] at this
            omega
          have HM := Lib.hid (ih l[j] (hrl _ (List.getElem_mem hlt)) (by omega) wr B q c hx)
          have HT := Lib.hid (encL_take l j hlt)
          have hep := enc_pos l[j]
          have hbd : ([UInt8.ofNat 3] ++ num l.length ++ encL (l.take j)).length + (enc l[j]).length ≤ 10000000000000 := by
            simp only [List.length_append, List.length_singleton]
            omega
          unfold vV at HM
          clear hx hel hle hlen2
          generalize hbsE : [UInt8.ofNat 3] ++ num l.length ++ encL (l.take j) = bs at *
          have HBS := Lib.hid hbsE; clear hbsE
          generalize l[j].l.length = n1 at *
          generalize l[j].k = x1 at *
          generalize l[j].n = x2 at *
          generalize l[j].s = x3 at *
          generalize enc l[j] = ej at *
          go_wp2_with fail
          go_at_call 29
          refine HM.out.mono ?_
          rintro e w3 ⟨v3, rfl, hr3, hb3⟩
          have HR3 := Lib.hid hr3
          have HB4 := Lib.hid (HB3.out.1.trans (hb3.mono HB3.out.1.size))
          have HBX := Lib.hid (HB3.out.2.2.bel hb3 HB3.out.2.2.lt)
          have HF3 := Lib.hid (HF.out.bel hb3 (Nat.le_refl _))
          have hsz4 := Nat.le_trans HB3.out.2.1 hb3.size
          clear hr3 hb3 HM HF
          go_wp2_with (refine wpList_appRow rfl _ _ rfl (w.heap.size + 1) _ _ HF3.out rfl _ _ _ HR3.out rfl hep hbd hsz4 ?_; intro v5 w5 hr5 hb5)
          go_round
          case rel => exact ⟨j + 1, by omega, by go_num, Lib.hid (by rw [HT.out, ← List.append_assoc, HBS.out]; exact hr5), Lib.hid ⟨HB4.out.trans (hb5.mono (by omega)), Nat.le_trans hsz4 hb5.size, HBX.out.bel hb5 (Nat.lt_succ_self _)⟩⟩
          case measure => simp [intOf]; omega
        · have hall := HF.out
          rw [List.take_of_length_le (by omega)] at hall
          have HALL := Lib.hid hall; clear hall
          go_wp2_with fail
          go_ret
          refine ⟨_, rfl, ?_, HB3.out.1⟩
          rw [HE.out]
          exact HALL.out.mono (by omega)
end Go.Proofs.Ytopkpdaingmmeaa
