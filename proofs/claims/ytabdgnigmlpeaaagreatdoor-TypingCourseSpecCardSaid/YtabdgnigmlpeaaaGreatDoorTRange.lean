/- Numbers within bounds; valid environments. -/
import Derived.Test.YtabdgnigmlpeaaaGreatDoorTAllint
import Derived.Deep.QuietTactic
import Derived.BigQuiet
namespace Go.Proofs.YtabdgnigmlpeaaaGreatDoor
open Go.RowKit

def inI (lo hi n : Int) : Bool := decide (lo ≤ n) && decide (n ≤ hi)
theorem within1_any (lo hi n : Int) (b1 b2 : Nat) (w : World) (h1 : w.cell? ⟨b1, 0, none⟩ = some (.int .i64 lo)) (h2 : w.cell? ⟨b2, 0, none⟩ = some (.int .i64 hi)) :
    Calls Tryz.prog 113 #[.int .i64 n, .pointer (some ⟨b1, 0, none⟩), .pointer (some ⟨b2, 0, none⟩)] w fun e w' => e = .returned (.bool (inI lo hi n)) ∧ Below w.heap.size w w' := by
  have HB := Lib.hid (Below.refl w.heap.size w)
  unfold inI
  by_cases h3 : lo ≤ n <;> by_cases h4 : n ≤ hi
  all_goals
    go_enter Tryz.func113, Tryz.ntmps113
    go_wp2_with fail
    go_ret
    exact ⟨by simp [h3, h4], HB.out⟩

set_option maxHeartbeats 1000000 in
theorem within_any (lo hi : Int) (ns : List Int) (p : Option Addr) (b off c : Nat) (w : World) (hp : ns ≠ [] → p = some ⟨b, off, none⟩) (hb : ns ≠ [] → b < w.heap.size) (hl : ns.length ≤ 6000000000000)
    (hc : ∀ j (h : j < ns.length), w.cell? ⟨b, off + j, none⟩ = some (.int .i64 ns[j])) :
    Calls Tryz.prog 51 #[.int .i64 lo, .int .i64 hi, .slice p ns.length c] w fun e w' => e = .returned (.bool (ns.all (inI lo hi))) ∧ Below w.heap.size w w' := by
  have hA1 := (Below.refl w.heap.size w).alloc (Nat.le_refl _) (.cells #[.int .i64 lo] 3)
  have hA2 := hA1.alloc hA1.size (.cells #[.int .i64 hi] 3)
  have e1 : ((w.alloc (.cells #[.int .i64 lo] 3)).alloc (.cells #[.int .i64 hi] 3)).cell? ⟨w.heap.size, 0, none⟩ = some (.int .i64 lo) := by simp [go_sem]
  have e2 : ((w.alloc (.cells #[.int .i64 lo] 3)).alloc (.cells #[.int .i64 hi] 3)).cell? ⟨w.heap.size + 1, 0, none⟩ = some (.int .i64 hi) := by simp [go_sem]
  have hs : w.heap.size + 1 < ((w.alloc (.cells #[.int .i64 lo] 3)).alloc (.cells #[.int .i64 hi] 3)).heap.size := by simp
  have HC : Hid (Calls Tryz.prog 112 #[.slice p ns.length c, .func (Fn.func 113) #[] #[.pointer (some ⟨w.heap.size, 0, none⟩), .pointer (some ⟨w.heap.size + 1, 0, none⟩)]] ((w.alloc (.cells #[.int .i64 lo] 3)).alloc (.cells #[.int .i64 hi] 3)) fun e w' => e = .returned (.bool (ns.all (inI lo hi))) ∧ Below w.heap.size w w') := Lib.hid (by
    generalize ((w.alloc (.cells #[.int .i64 lo] 3)).alloc (.cells #[.int .i64 hi] 3)) = w2 at *
    have hg : ∀ j (h : j < ns.length), ns.getD j 0 = ns[j] := fun j h => by simp [List.getD, h]
    have hk : ∀ (s : Unit) W W', (fun (_ : Unit) W => Below w2.heap.size w2 W) s W → Below W.heap.size W W' → (fun (_ : Unit) W => Below w2.heap.size w2 W) s W' := fun _ _ _ h1 h2 => h1.trans (h2.mono h1.size)
    refine (all_int (fun (s : Unit) n => (inI lo hi n, s)) (fun _ W => Below w2.heap.size w2 W) (fun _ => True) (Fn.func 113) #[] #[.pointer (some ⟨w.heap.size, 0, none⟩), .pointer (some ⟨w.heap.size + 1, 0, none⟩)] (w2.heap.size + 1) ns (fun j => .int .i64 (ns.getD j 0)) p b off c hp hl
      (fun s W j hW hj => ?_) (fun _ _ _ _ _ => trivial) (all1_int (fun (s : Unit) n => (inI lo hi n, s)) (fun _ W => Below w2.heap.size w2 W) (fun _ => True) (w2.heap.size + 1) 113 _ (enters_of Tryz.func113 (by kernel_rfl) rfl) ns (fun j => .int .i64 (ns.getD j 0)) hk (fun s W j hj _ hW => ?_)) hk () w2 (by omega) trivial (Below.refl _ _)).mono ?_
    · have hne : ns ≠ [] := by rintro rfl; simp at hj
      rw [hW.cell (p := ⟨b, off + j, none⟩) (show b < w2.heap.size from Nat.lt_of_lt_of_le (hb hne) hA2.size), hA2.cell (p := ⟨b, off + j, none⟩) (hb hne), hc j hj, hg j hj]
    · have := within1_any lo hi ns[j] w.heap.size (w.heap.size + 1) W ((hW.cell (p := ⟨w.heap.size, 0, none⟩) (show w.heap.size < w2.heap.size by omega)).trans e1) ((hW.cell (p := ⟨w.heap.size + 1, 0, none⟩) hs).trans e2)
      rw [← hg j hj] at this
      refine this.mono fun e w' h => ⟨?_, hW.trans (h.2.mono hW.size), Kp.ofBelow h.2 (Nat.le_refl _)⟩
      rw [h.1, hg j hj]
    · rintro e w' ⟨rfl, h, _⟩
      rw [allS_pure]
      exact ⟨rfl, hA2.trans (h.mono hA2.size)⟩)
  clear hp hb hc e1 e2 hs hA1 hA2
  generalize ns.all (inI lo hi) = q at *
  have hmf : ∀ (fn : Fn) (first cap : Array Value) (w : World), (Instr.makeFunc fn first cap).run Tryz.prog w = .ok (.func fn first cap) w := fun _ _ _ _ => rfl
  go_enter Tryz.func51, Tryz.ntmps51
  go_wp2_with (go_at_call 112; (with_reducible refine HC.out.mono ?_); rintro e w1 ⟨rfl, hr⟩; have HR1 := Lib.hid hr; clear hr)
  go_ret
  exact ⟨rfl, HR1.out⟩
/-- Numbers that the caller has just laid in a row of their own. -/
theorem withinL_any (lo hi : Int) (ns : List Int) (c : Nat) (w : World) (hl : ns.length ≤ 100) (l : Nat) (hn : l = ns.length) :
    Calls Tryz.prog 51 #[.int .i64 lo, .int .i64 hi, .slice (some ⟨w.heap.size, 0, none⟩) l c] (w.alloc (.cells (ns.map (Value.int .i64)).toArray 3)) fun e w' => e = .returned (.bool (ns.all (inI lo hi))) ∧ Below w.heap.size w w' := by
  subst hn
  have hA := (Below.refl w.heap.size w).alloc (Nat.le_refl _) (.cells (ns.map (Value.int .i64)).toArray 3)
  refine (within_any lo hi ns _ w.heap.size 0 c _ (fun _ => rfl) (fun _ => by simp) (by omega) (fun j hj => ?_)).mono fun e w' h => ⟨h.1, hA.trans (h.2.mono hA.size)⟩
  have := cell_of_row (w.alloc (.cells (ns.map (Value.int .i64)).toArray 3)) w.heap.size (0 + j) _ _ (0, 0) (heap_alloc_new w _)
  rw [this]
  simp [hj]
end Go.Proofs.YtabdgnigmlpeaaaGreatDoor
