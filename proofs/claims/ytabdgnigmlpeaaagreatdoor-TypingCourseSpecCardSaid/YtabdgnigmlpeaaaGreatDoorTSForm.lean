/- The forms of steps, one by one. -/
import Derived.Test.YtabdgnigmlpeaaaGreatDoorTFitS
import Derived.Test.YtabdgnigmlpeaaaGreatDoorTCForm2
namespace Go.Proofs.YtabdgnigmlpeaaaGreatDoor
open Go.RowKit

set_option maxHeartbeats 2000000 in
set_option maxRecDepth 100000 in
theorem forms_step (ps : List St) (p : Option Addr) (cap b off : Nat) (X : Nat → Loc) (hb : ps ≠ [] → p = some ⟨b, off, none⟩) (hl : ps.length ≤ 6000000000000) (w : World)
    (hcell : ∀ W, Below w.heap.size w W → ∀ i (h : i < ps.length), ∀ j u, (cellsS ps[i] (X i))[j]? = some u → W.cell? ⟨b, off + i * 8 + j, none⟩ = some u)
    (hread : ∀ W, Below w.heap.size w W → ∀ i (h : i < ps.length), Calls Tryz.prog 110 #[sV ps[i] (X i)] W fun e w' => ∃ t v, e = .returned (.iface t v) ∧ FmIn w' (W.heap.size ≤ ·) (formS ps[i]) (.iface t v) ∧ Below W.heap.size W w') :
    Calls Tryz.prog 109 #[.slice p ps.length cap, .func (Fn.func 110) #[] #[]] w fun e w' => ∃ q k, e = .returned (.slice q ps.length k) ∧ FsIn w' (w.heap.size ≤ ·) (ps.map formS) q k ∧ Below w.heap.size w w' := by
  have HC := Lib.hid hcell
  have HR := Lib.hid hread
  have HB := Lib.hid hb
  have H0 : Hid (FLoop w w (.slice none 0 0) [] ((ps.take 0).map formS)) := Lib.hid ⟨OwnF.nil _ _, rfl, Below.refl _ _⟩
  clear hcell hread hb
  go_enter Tryz.func109, Tryz.ntmps109
  go_wp2_with fail
  go_loopw [4, 9] (fun v i wr => ∃ (j : Nat) (l : List (Fm × Value)), j ≤ ps.length ∧ i = .int .i64 j ∧ Hid (FLoop w wr v l ((ps.take j).map formS))) (fun _ i _ => ps.length - (intOf i).toNat)
  case atStart => exact ⟨0, [], Nat.zero_le _, rfl, H0⟩
  case round =>
    obtain ⟨j, l, hj, rfl, HL⟩ := hrel
    clear H0
    by_cases hlt : j < ps.length
    · have hji : (j : Int) < (ps.length : Int) := by omega
      obtain rfl := HB.out (by rintro rfl; simp at hlt)
      have hcc := HC.out wr HL.out.bel j hlt
      have a0 := hcc 0 _ rfl
      have a1 := hcc 1 _ rfl
      have a2 := hcc 2 _ rfl
      have a3 := hcc 3 _ rfl
      have a4 := hcc 4 _ rfl
      have a5 := hcc 5 _ rfl
      have a6 := hcc 6 _ rfl
      have a7 := hcc 7 _ rfl
      clear hcc
      rw [Nat.add_zero] at a0
      have hA := (Below.refl wr.heap.size wr).alloc (Nat.le_refl _) (.cells #[.int .i64 ps[j].k, .int .i64 ps[j].b, .int .i64 ps[j].c.k, .int .i64 ps[j].c.v, .int .i64 ps[j].c.n, .slice (X j).pc ps[j].c.ps.length (X j).cc, .slice (X j).pt ps[j].th.length (X j).ct, .slice (X j).pe ps[j].el.length (X j).ce] 84)
      have HA := Lib.hid (HL.out.bel.trans (hA.mono HL.out.bel.size))
      have HRR := Lib.hid (HR.out _ HA.out j hlt)
      have HT : Hid ((ps.take (j + 1)).map formS = (ps.take j).map formS ++ [formS ps[j]]) := Lib.hid (by rw [List.take_succ_eq_append_getElem hlt, List.map_append]; rfl)
      have HO := Lib.hid (HL.out.own.bel hA)
      have hown := HL.out.own.lt
      have hllen := HL.out.len
      rw [List.length_map, List.length_take] at hllen
      have hll : l.length ≤ 6000000000000 := by omega
      unfold sV at HRR
      clear HC HR HB hA hllen
      generalize ps[j].k = x1 at *
      generalize ps[j].b = x2 at *
      generalize ps[j].c.k = x3 at *
      generalize ps[j].c.v = x4 at *
      generalize ps[j].c.n = x5 at *
      generalize ps[j].c.ps.length = x6 at *
      generalize ps[j].th.length = x7 at *
      generalize ps[j].el.length = x8 at *
      generalize X j = xj at *
      obtain ⟨pc, cc, pt, ct, pe, ce⟩ := xj
      simp only at *
      generalize formS ps[j] = f at *
      go_wp2_with fail
      go_at_call 110
      (with_reducible refine HRR.out.mono ?_)
      rintro e w3 ⟨t, v, rfl, hf, hb3⟩
      have hs3 := hb3.size
      have HB3 := Lib.hid (HA.out.trans (hb3.mono HA.out.size))
      have HO3 := Lib.hid (HO.out.bel hb3)
      have HV3 := Lib.hid (hf.mono (Q' := fun b => w.heap.size ≤ b ∧ some b ≠ Value.ownBlock _) fun b hb => ⟨Nat.le_trans HA.out.size hb, fun e => by have := (hown b e.symm).2; simp only [World.size_alloc] at hb; omega⟩)
      have hsz3 := HB3.out.size
      clear hf hb3 HRR HA HO
      go_wp2_with (refine wpList_pushF rfl _ _ rfl w.heap.size _ l HO3.out rfl f t v 1 rfl HV3.out hll hsz3 ?_; intro g cap' w4 ho4 hg4; have HF4 : Hid (FLoop w w4 (.slice (some ⟨g, 0, none⟩) (l.length + 1) cap') (l ++ [(f, .iface t v)]) ((ps.take (j + 1)).map formS)) := Lib.hid ⟨ho4, by rw [List.map_append, HL.out.map, HT.out]; rfl, below_grown HB3.out hg4 fun k hk => (hown k hk).1⟩; clear ho4 hg4)
      go_roundw
      case rel => exact ⟨j + 1, _, by omega, by go_num, HF4⟩
      case measure => simp [intOf]; omega
    · have hji : ¬ (j : Int) < (ps.length : Int) := by omega
      obtain rfl : j = ps.length := by omega
      have hll := HL.out.len
      rw [List.length_map, List.take_length] at hll
      obtain ⟨q, k, hv, hF⟩ := HL.out.own.reads (by omega)
      rw [hll] at hv
      subst hv
      rw [HL.out.map, List.take_length] at hF
      have HF := Lib.hid hF
      clear hF hll HC HR HB
      go_wp2_with fail
      go_ret
      exact ⟨q, k, rfl, HF.out, HL.out.bel⟩
end Go.Proofs.YtabdgnigmlpeaaaGreatDoor
