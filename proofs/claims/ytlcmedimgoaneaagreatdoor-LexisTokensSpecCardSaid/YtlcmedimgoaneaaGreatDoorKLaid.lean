/- What the listed variables hold, out of the row's condition. -/
import Derived.Test.YtlcmedimgoaneaaGreatDoorKGlob
import Derived.Test.YtlcmedimgoaneaaGreatDoorRows
import Derived.Lib.LaidU8
import Derived.Lib.LaidTab
import Derived.Stop.LaidErr
import Derived.ProofKit
import Derived.Shelf.Vars
import Derived.Stop.Joined
import Derived.MakeChecks
import Derived.ChangeSame
namespace Go.Proofs.YtlcmedimgoaneaaGreatDoor
open Go.ChangeShapes Go.WideShapes Go.ChangeAt Go.RowKit

theorem c9 : Tryz.prog.cellsOf 9 = 1 := by kernel_rfl
theorem c5 : Tryz.prog.cellsOf 5 = 1 := by kernel_rfl
theorem c119 : Tryz.prog.cellsOf 119 = 2 := by kernel_rfl
theorem strTab {W : World} {cs : List Value} {t n fuel : Nat} {p : List MemPlace} {ss : List Bs} (ht : Tryz.prog.underlying t = some (.array n 9)) (hn : ss.length = n)
    (h : DataW.trod (fun _ => ()) Tryz.prog W 0 (fun _ => true) false fuel t cs = some (.agg (ss.map fun s => .lit (.string s)), p)) : ∀ i (hi : i < ss.length), cs[i]? = some (.string (S ss[i])) := by
  intro i hi
  obtain ⟨xs, m, _, ex, _, hl, hel⟩ := DataW.trod_array ht h
  have hE := hel i (by omega)
  rw [c9, Nat.mul_one, List.getElem?_eq_getElem (by omega : i < xs.length)] at hE
  obtain ⟨s, e1, e2, _⟩ := DataW.trod_string Tryz.underlying9 hE
  have e3 : ss.map (fun s => (DataW.lit (.string s) : DataW Unit)) = xs.map (·.1) := DataW.agg.inj (Prod.mk.inj ex).1
  have e4 : (xs.map (·.1))[i]? = some (.lit (.string ss[i])) := by rw [← e3]; simp [hi]
  rw [List.getElem?_map, List.getElem?_eq_getElem (by omega : i < xs.length), e2] at e4
  have hs : s.data.toList = ss[i] := by simpa using e4
  have : cs[i]? = some (.string s) := by
    have h0 : ((cs.drop i).take 1)[0]? = some (.string s) := by rw [e1]; rfl
    simpa using h0
  rw [this, ← hs, S_list]
theorem escTab {W : World} {cs : List Value} {fuel : Nat} {p : List MemPlace}
    (h : DataW.trod (fun _ => ()) Tryz.prog W 0 (fun _ => true) false fuel 120 cs = some (.agg ((List.range 3).map fun i => .agg [.lit (.string (escW.getD i [])), .lit (.int .u8 ((escC.getD i 0).toNat : Int))]), p)) :
    ∀ i, i < 3 → cs[i * 2]? = some (.string (S (escW.getD i []))) ∧ cs[i * 2 + 1]? = some (.int .u8 (escC.getD i 0).toNat) := by
  intro i hi
  obtain ⟨xs, m, _, ex, _, hl, hel⟩ := DataW.trod_array Tryz.underlying120 h
  have hE := hel i hi
  rw [c119, List.getElem?_eq_getElem (by omega : i < xs.length)] at hE
  obtain ⟨y0, y1, m', e0, hlen, h0, h1⟩ := trod_struct2 Tryz.underlying119 hE
  dsimp only at h0 h1
  rw [c9] at h0
  rw [c5] at h1
  obtain ⟨s, a1, a2, _⟩ := DataW.trod_string Tryz.underlying9 h0
  obtain ⟨z, b1, b2, _⟩ := DataW.trod_int Tryz.underlying5 h1
  have e3 := DataW.agg.inj (Prod.mk.inj ex).1
  have e4 : (xs.map (·.1))[i]? = some (.agg [.lit (.string (escW.getD i [])), .lit (.int .u8 ((escC.getD i 0).toNat : Int))]) := by rw [← e3]; simp [hi]
  rw [List.getElem?_map, List.getElem?_eq_getElem (by omega : i < xs.length), e0, a2, b2] at e4
  simp only [Option.map_some, Option.some.injEq, DataW.agg.injEq, List.cons.injEq, DataW.lit.injEq, Lit.string.injEq, Lit.int.injEq, true_and, and_true] at e4
  refine ⟨?_, ?_⟩
  · have h2 : ((((cs.drop (i * 2)).take 2).drop 0).take 1)[0]? = some (.string s) := by rw [a1]; rfl
    rw [← e4.1, S_list]
    simpa using h2
  · have h2 : ((((cs.drop (i * 2)).take 2).drop 1).take 1)[0]? = some (.int .u8 z) := by rw [b1]; rfl
    rw [← e4.2]
    simpa using h2

theorem of_reads {W : World} {n : String} {g t : Nat} {d : DataW Unit} (hg : Tryz.prog.globalNamed n = some g) (ht : (Tryz.prog.globals[g]?).map (·.type) = some t) (h : Lib.VarReads Tryz.prog W n d) :
    ∃ (cs : Array Value) (fuel : Nat) (p : List MemPlace), (∀ off, W.cell? ⟨g, off, none⟩ = cs[off]?) ∧ g < W.heap.size ∧ DataW.trod (fun _ => ()) Tryz.prog W 0 (fun _ => true) false fuel t cs.toList = some (d, p) := by
  obtain ⟨g', t', cs, fuel, p, hg', ht', hv, hd⟩ := h
  obtain rfl := Option.some.inj (hg.symm.trans hg')
  obtain rfl := Option.some.inj (ht.symm.trans ht')
  refine ⟨cs, fuel, p, World.var?_cell hg hv, ?_, hd⟩
  unfold World.var? at hv
  rw [hg, Option.bind_some] at hv
  cases hh : W.heap[g]? with
  | none => rw [hh] at hv; cases hv
  | some o => exact (Array.getElem?_eq_some_iff.1 hh).1
theorem of_laid {W : World} (h : laidMetH Tryz.prog Rows.lexisTimeSpecRow.laid W) (hsh : W.ShapedOpen Tryz.prog) : Gl W := by
  rw [MakeChecks.laidMetH_plain _ _ _ (by kernel_rfl)] at h
  have hr := fun n d hm => Lib.laidMet.reads h (n := n) (d := d) hm
  obtain ⟨cc, fc, pc, hc, _, hdc⟩ := of_reads (g := 0) (t := 97) (by kernel_rfl) (by kernel_rfl) (hr "stopwatch/lexis.classes" _ (.tail _ (.tail _ (.tail _ (.tail _ (.head _))))))
  obtain ⟨cs, fs, ps, hs, _, hds⟩ := of_reads (g := 1) (t := 118) (by kernel_rfl) (by kernel_rfl) (hr "stopwatch/lexis.signs" _ (.tail _ (.tail _ (.tail _ (.tail _ (.tail _ (.head _)))))))
  obtain ⟨ce, fe, pe, he, _, hde⟩ := of_reads (g := 2) (t := 120) (by kernel_rfl) (by kernel_rfl) (hr "stopwatch/lexis.escapes" _ (.tail _ (.tail _ (.tail _ (.tail _ (.tail _ (.tail _ (.head _))))))))
  obtain ⟨c8, f8, p8, _, h8, _⟩ := of_reads (g := 8) (t := 151) (by kernel_rfl) (by kernel_rfl) (hr "math/bits.deBruijn64tab" _ (.tail _ (.head _)))
  have hS := strTab (ss := clsL) Tryz.underlying97 rfl hdc
  have hT := strTab (ss := signs) Tryz.underlying118 rfl hds
  have hE := escTab hde
  refine ⟨h8, fun i hi => ?_, fun i hi => ?_, fun i hi => ?_, fun i hi => ?_, ?_, ?_⟩
  · rw [hc, ← Array.getElem?_toList]; exact hS i hi
  · rw [hs, ← Array.getElem?_toList]; exact hT i hi
  · rw [he, ← Array.getElem?_toList, (hE i hi).1]; simp [List.getD, hi]
  · rw [he, ← Array.getElem?_toList, (hE i hi).2]; simp [List.getD, hi]
  · exact cell_of_shapedOpen_int (g := 3) (t := 3) (zero := #[.int .i64 0]) hsh (of_decide_eq_true (by kernel_rfl)) (by kernel_rfl) rfl (by kernel_rfl) (by kernel_rfl) Tryz.underlying3
  · exact Lib.tabIs_of_head (g := 4) (t := 140) (e := 125) (n := 20) (by kernel_rfl) (by kernel_rfl) Tryz.underlying140 (by kernel_rfl) (by kernel_rfl) (by kernel_rfl) h.tail.tail
end Go.Proofs.YtlcmedimgoaneaaGreatDoor
