/- The forms of conditions. -/
import Derived.Test.YtabdgnigmlpeaaaGreatDoorTForms
namespace Go.Proofs.YtabdgnigmlpeaaaGreatDoor
open Go.RowKit

theorem below_grown {w w3 w4 : World} {o : Option Nat} (hb : Below w.heap.size w w3) (hg : w3.grownBy w4 o) (ho : ∀ k, o = some k → w.heap.size ≤ k) : Below w.heap.size w w4 :=
  ⟨hg.os.trans hb.os, hg.tape.trans hb.tape, hg.output.trans hb.output, Nat.le_trans hb.size hg.size, fun k hk => (hg.block k (Nat.lt_of_lt_of_le hk hb.size) fun e => by have := ho k e.symm; omega).trans (hb.block k hk)⟩
/-- What stands in the loop of forms. -/
structure FLoop (w wr : World) (v : Value) (l : List (Fm × Value)) (fs : List Fm) : Prop where
  own : OwnF wr w.heap.size v l
  map : l.map (·.1) = fs
  bel : Below w.heap.size w wr
theorem FLoop.len {w wr : World} {v : Value} {l : List (Fm × Value)} {fs : List Fm} (h : FLoop w wr v l fs) : l.length = fs.length := by rw [← h.map, List.length_map]

set_option maxHeartbeats 2000000 in
set_option maxRecDepth 100000 in
theorem forms_cond (ps : List Cd) (p : Option Addr) (cap b off : Nat) (P : Nat → Option Addr) (C : Nat → Nat) (hb : ps ≠ [] → p = some ⟨b, off, none⟩) (hl : ps.length ≤ 6000000000000) (w : World)
    (hcell : ∀ W, Below w.heap.size w W → ∀ i (h : i < ps.length), W.cell? ⟨b, off + i * 4, none⟩ = some (.int .i64 ps[i].k) ∧ W.cell? ⟨b, off + i * 4 + 1, none⟩ = some (.int .i64 ps[i].v) ∧
        W.cell? ⟨b, off + i * 4 + 2, none⟩ = some (.int .i64 ps[i].n) ∧ W.cell? ⟨b, off + i * 4 + 3, none⟩ = some (.slice (P i) ps[i].ps.length (C i)))
    (hread : ∀ W, Below w.heap.size w W → ∀ i (h : i < ps.length), Calls Tryz.prog 105 #[cV ps[i] (P i) (C i)] W fun e w' => ∃ t v, e = .returned (.iface t v) ∧ FmIn w' (W.heap.size ≤ ·) (formC ps[i]) (.iface t v) ∧ Below W.heap.size W w') :
    Calls Tryz.prog 169 #[.slice p ps.length cap, .func (Fn.func 105) #[] #[]] w fun e w' => ∃ q k, e = .returned (.slice q ps.length k) ∧ FsIn w' (w.heap.size ≤ ·) (ps.map formC) q k ∧ Below w.heap.size w w' := by
  have HC := Lib.hid hcell
  have HR := Lib.hid hread
  have HB := Lib.hid hb
  have H0 : Hid (FLoop w w (.slice none 0 0) [] ((ps.take 0).map formC)) := Lib.hid ⟨OwnF.nil _ _, rfl, Below.refl _ _⟩
  clear hcell hread hb
  go_enter Tryz.func169, Tryz.ntmps169
  go_wp2_with fail
  go_loopw [4, 9] (fun v i wr => ∃ (j : Nat) (l : List (Fm × Value)), j ≤ ps.length ∧ i = .int .i64 j ∧ Hid (FLoop w wr v l ((ps.take j).map formC))) (fun _ i _ => ps.length - (intOf i).toNat)
  case atStart => exact ⟨0, [], Nat.zero_le _, rfl, H0⟩
  case round =>
    obtain ⟨j, l, hj, rfl, HL⟩ := hrel
    clear H0
    by_cases hlt : j < ps.length
    · have hji : (j : Int) < (ps.length : Int) := by omega
      obtain rfl := HB.out (by rintro rfl; simp at hlt)
      obtain ⟨a0, a1, a2, a3⟩ := HC.out wr HL.out.bel j hlt
      have hA := (Below.refl wr.heap.size wr).alloc (Nat.le_refl _) (.cells #[.int .i64 ps[j].k, .int .i64 ps[j].v, .int .i64 ps[j].n, .slice (P j) ps[j].ps.length (C j)] 40)
      have HA := Lib.hid (HL.out.bel.trans (hA.mono HL.out.bel.size))
      have HRR := Lib.hid (HR.out _ HA.out j hlt)
      have HT : Hid ((ps.take (j + 1)).map formC = (ps.take j).map formC ++ [formC ps[j]]) := Lib.hid (by rw [List.take_succ_eq_append_getElem hlt, List.map_append]; rfl)
      have HO := Lib.hid (HL.out.own.bel hA)
      have hown := HL.out.own.lt
      have hllen := HL.out.len
      rw [List.length_map, List.length_take] at hllen
      have hll : l.length ≤ 6000000000000 := by omega
      unfold cV at HRR
      clear HC HR HB hA hllen
      generalize ps[j].k = x1 at *
      generalize ps[j].v = x2 at *
      generalize ps[j].n = x3 at *
      generalize ps[j].ps.length = x4 at *
      generalize formC ps[j] = f at *
      go_wp2_with fail
      go_at_call 105
      (with_reducible refine HRR.out.mono ?_)
      rintro e w3 ⟨t, v, rfl, hf, hb3⟩
      have hs3 := hb3.size
      have HB3 := Lib.hid (HA.out.trans (hb3.mono HA.out.size))
      have HO3 := Lib.hid (HO.out.bel hb3)
      have HV3 := Lib.hid (hf.mono (Q' := fun b => w.heap.size ≤ b ∧ some b ≠ Value.ownBlock _) fun b hb => ⟨Nat.le_trans HA.out.size hb, fun e => by have := (hown b e.symm).2; simp only [World.size_alloc] at hb; omega⟩)
      have hsz3 := HB3.out.size
      clear hf hb3 HRR HA HO
      go_wp2_with (refine wpList_pushF rfl _ _ rfl w.heap.size _ l HO3.out rfl f t v 1 rfl HV3.out hll hsz3 ?_; intro g cap' w4 ho4 hg4; have HF4 : Hid (FLoop w w4 (.slice (some ⟨g, 0, none⟩) (l.length + 1) cap') (l ++ [(f, .iface t v)]) ((ps.take (j + 1)).map formC)) := Lib.hid ⟨ho4, by rw [List.map_append, HL.out.map, HT.out]; rfl, below_grown HB3.out hg4 fun k hk => (hown k hk).1⟩; clear ho4 hg4)
      go_roundw
      case rel => exact ⟨j + 1, _, by omega, by go_num, HF4⟩
      case measure => simp [intOf]; omega
    · have hji : ¬ (j : Int) < (ps.length : Int) := by omega
      obtain rfl : j = ps.length := by omega
      have hll := HL.out.len
      rw [List.length_map, List.take_length] at hll
      obtain ⟨q, k, hv, hF⟩ := HL.out.own.reads (by omega)
      rw [hll] at hv
      subst hv
      rw [HL.out.map, List.take_length] at hF
      have HF := Lib.hid hF
      clear hF hll HC HR HB
      go_wp2_with fail
      go_ret
      exact ⟨q, k, rfl, HF.out, HL.out.bel⟩
end Go.Proofs.YtabdgnigmlpeaaaGreatDoor
