/- The statements' small functions; the examples' texts. -/
import Derived.Test.YtdhdjfkknfbmhaaGreatDoorSNameL
import Derived.Test.YtdhdjfkknfbmhaaGreatDoorSSameL
import Derived.Lib.SlBytesConst
import Derived.Deep.RegionHeld3
namespace Go.Proofs.YtdhdjfkknfbmhaaGreatDoor
open Go.RowKit

theorem lAtLeast (v n : Int) (w : World) : Calls Tryz.prog 19 #[.int .i64 v, .int .i64 n] w fun e w' => e = .returned (.agg #[.int .i64 1, .int .i64 v, .int .i64 n, .slice none 0 0]) ∧ Below w.heap.size w w' := by
  have HB := Lib.hid ((Below.refl w.heap.size w).alloc (Nat.le_refl _) (.cells #[.int .i64 0, .int .i64 0, .int .i64 0, .slice none 0 0] 49))
  go_enter Tryz.func19, Tryz.ntmps19
  go_wp2_with fail
  refine bodyPost_ret (v := .agg #[.int .i64 1, .int .i64 v, .int .i64 n, .slice none 0 0]) ?_ rfl ⟨rfl, (Below.refl w.heap.size w).alloc (Nat.le_refl _) _⟩
  simp [results, Tryz.results19, go_sem]
theorem lJoin (k : Int) (p : Option Addr) (n c : Nat) (w : World) : Calls Tryz.prog 20 #[.int .i64 k, .slice p n c] w fun e w' => e = .returned (.agg #[.int .i64 k, .int .i64 0, .int .i64 0, .slice p n c]) ∧ Below w.heap.size w w' := by
  go_enter Tryz.func20, Tryz.ntmps20
  go_wp2_with fail
  refine bodyPost_ret (v := .agg #[.int .i64 k, .int .i64 0, .int .i64 0, .slice p n c]) ?_ rfl ⟨rfl, (Below.refl w.heap.size w).alloc (Nat.le_refl _) _⟩
  simp [results, Tryz.results20, go_sem]
theorem lNot (c : Cd) (p : Option Addr) (cap : Nat) (Q : Nat → Prop) (w : World) (h : CdIn w Q c p cap) :
    Calls Tryz.prog 21 #[cV c p cap] w fun e w' => ∃ q d, e = .returned (cV (negatedS c) q d) ∧ CdIn w' (fun b => Q b ∨ w.heap.size ≤ b) (negatedS c) q d ∧ Below w.heap.size w w' := by
  unfold cV
  have HC := Lib.hid h
  clear h
  go_enter Tryz.func21, Tryz.ntmps21
  go_wp2_with fail
  have hB1 := (Below.refl w.heap.size w).alloc (Nat.le_refl _) (.cells #[.int .i64 c.k, .int .i64 c.v, .int .i64 c.n, .slice p c.ps.length cap] 49)
  have hB2 := hB1.alloc hB1.size (.cells #[.int .i64 4, .int .i64 0, .int .i64 0, .slice (some ⟨w.heap.size + 1 + 1, 0, none⟩) 1 1] 49)
  have hB3 := hB2.alloc hB2.size (.cells #[.int .i64 c.k, .int .i64 c.v, .int .i64 c.n, .slice p c.ps.length cap] 49)
  have h1 := (HC.out.bel hB2).one 4 0 0
  simp only [World.size_alloc] at h1
  refine bodyPost_ret (v := .agg #[.int .i64 4, .int .i64 0, .int .i64 0, .slice (some ⟨w.heap.size + 1 + 1, 0, none⟩) 1 1]) ?_ rfl ⟨_, 1, rfl, h1.mono (fun b hb => hb.imp id fun h => by omega), hB3⟩
  simp [results, Tryz.results21, go_sem]

theorem BAt.new (w : World) (l : Bs) (fr : Nat × Nat) : BAt (w.alloc (.cells (l.map fun c => .int .u8 c.toNat).toArray 5 fr)) 0 (some ⟨w.heap.size, 0, none⟩) l :=
  ⟨fun _ => ⟨_, 0, rfl, Nat.zero_le _, by simp, fun i hi => by rw [World.cell?_alloc_mark]; simp [hi]⟩⟩
theorem below_step {w w1 : World} {o : Obj} (h : Below (w.alloc o).heap.size (w.alloc o) w1) : Below w.heap.size w w1 :=
  ((Below.refl w.heap.size w).alloc (Nat.le_refl _) o).trans (h.mono (by simp))

def tx1 : Bs := [115, 104, 111, 114, 116, 32, 62, 61, 32, 49, 32, 97, 110, 100, 32, 102, 105, 101, 108, 100, 32, 62, 32, 51]
def tx2 : Bs := [115, 104, 111, 114, 116, 32, 62]
def tx3 : Bs := [102, 105, 101, 108, 100, 32, 61, 32, 50]
def tx4 : Bs := [111, 108, 100, 101, 114, 59, 32, 98, 105, 98, 59]
def tx6 : Bs := [37]
def c1S : Cd := .mk 2 0 0 [.atLeast 3 1, .atLeast 2 4]
def c3S : Cd := .mk 2 0 0 [.atLeast 2 2, negatedS (.atLeast 2 3)]
def s4S : List St := [.mk 1 1 .zero [] [], .mk 1 4 .zero [] []]
theorem rd1 : readS (condS 16) tx1 = .yes c1S := by kernel_rfl
theorem rd2 : readS (condS 16) tx2 = .no 7 60 := by kernel_rfl
theorem rd3 : readS (condS 16) tx3 = .yes c3S := by kernel_rfl
theorem rd4 : readS (stepsS 16) tx4 = .yes s4S := by kernel_rfl
theorem rd6 : readS (stepsS 16) tx6 = .no 0 50 := by kernel_rfl
theorem rd7 : readS (condS 16) [] = .no 0 60 := by kernel_rfl
/-- What the package variables of the rows hold, as far as the program reads them. -/
structure GlA (w : World) : Prop where
  gl : Gl w
  gs : GlS w
theorem GlA.bel {w w' : World} (h : GlA w) (hb : Below w.heap.size w w') : GlA w' := ⟨h.gl.bel' hb, h.gs.bel hb⟩
theorem con1 (w : World) (h : GlA w) (fr : Nat × Nat) : Calls Tryz.prog 14 #[.slice (some ⟨w.heap.size, 0, none⟩) 24 24] (w.alloc (.cells (tx1.map fun c => .int .u8 c.toNat).toArray 5 fr)) fun e w' => Below w.heap.size w w' ∧ ∃ p k, e = .returned (.tuple #[.agg #[.int .i64 2, .int .i64 0, .int .i64 0, .slice p 2 k], .int .i64 0, .int .i64 0]) ∧ CdIn w' (fun b => w.heap.size + 1 ≤ b) c1S p k := by
  have hb := (Below.refl w.heap.size w).alloc (Nat.le_refl _) (.cells (tx1.map fun c => .int .u8 c.toNat).toArray 5 fr)
  have hr := condition_top tx1 (by decide) _ (h.gl.bel' hb) (h.gs.e.bel hb) 0 _ 24 (BAt.new w tx1 fr)
  rw [rd1] at hr
  refine hr.mono ?_
  rintro e w' ⟨h1, p, k, rfl, h2⟩
  rw [World.size_alloc] at h2
  exact ⟨below_step h1, p, k, rfl, h2⟩
theorem con2 (w : World) (h : GlA w) (fr : Nat × Nat) : Calls Tryz.prog 14 #[.slice (some ⟨w.heap.size, 0, none⟩) 7 7] (w.alloc (.cells (tx2.map fun c => .int .u8 c.toNat).toArray 5 fr)) fun e w' => Below w.heap.size w w' ∧ e = .returned (.tuple #[.agg #[.int .i64 0, .int .i64 0, .int .i64 0, .slice none 0 0], .int .i64 7, .int .i64 60]) := by
  have hb := (Below.refl w.heap.size w).alloc (Nat.le_refl _) (.cells (tx2.map fun c => .int .u8 c.toNat).toArray 5 fr)
  have hr := condition_top tx2 (by decide) _ (h.gl.bel' hb) (h.gs.e.bel hb) 0 _ 7 (BAt.new w tx2 fr)
  rw [rd2] at hr
  exact hr.mono fun e w' h => ⟨below_step h.1, h.2⟩
theorem con3 (w : World) (h : GlA w) (fr : Nat × Nat) : Calls Tryz.prog 14 #[.slice (some ⟨w.heap.size, 0, none⟩) 9 9] (w.alloc (.cells (tx3.map fun c => .int .u8 c.toNat).toArray 5 fr)) fun e w' => Below w.heap.size w w' ∧ ∃ p k, e = .returned (.tuple #[.agg #[.int .i64 2, .int .i64 0, .int .i64 0, .slice p 2 k], .int .i64 0, .int .i64 0]) ∧ CdIn w' (fun b => w.heap.size + 1 ≤ b) c3S p k := by
  have hb := (Below.refl w.heap.size w).alloc (Nat.le_refl _) (.cells (tx3.map fun c => .int .u8 c.toNat).toArray 5 fr)
  have hr := condition_top tx3 (by decide) _ (h.gl.bel' hb) (h.gs.e.bel hb) 0 _ 9 (BAt.new w tx3 fr)
  rw [rd3] at hr
  refine hr.mono ?_
  rintro e w' ⟨h1, p, k, rfl, h2⟩
  rw [World.size_alloc] at h2
  exact ⟨below_step h1, p, k, rfl, h2⟩
theorem con4 (w : World) (h : GlA w) (fr : Nat × Nat) : Calls Tryz.prog 13 #[.slice (some ⟨w.heap.size, 0, none⟩) 11 11] (w.alloc (.cells (tx4.map fun c => .int .u8 c.toNat).toArray 5 fr)) fun e w' => Below w.heap.size w w' ∧ ∃ p k, e = .returned (.tuple #[.slice p 2 k, .int .i64 0, .int .i64 0]) ∧ SsIn w' (fun b => w.heap.size + 1 ≤ b) s4S p k := by
  have hb := (Below.refl w.heap.size w).alloc (Nat.le_refl _) (.cells (tx4.map fun c => .int .u8 c.toNat).toArray 5 fr)
  have hr := steps_top tx4 (by decide) _ (h.gl.bel' hb) (h.gs.bel hb) 0 _ 11 (BAt.new w tx4 fr)
  rw [rd4] at hr
  refine hr.mono ?_
  rintro e w' ⟨h1, p, k, rfl, h2⟩
  rw [World.size_alloc] at h2
  exact ⟨below_step h1, p, k, rfl, h2⟩
theorem con5 (w : World) (h : GlA w) (fr : Nat × Nat) : Calls Tryz.prog 12 #[.slice (some ⟨w.heap.size, 0, none⟩) 10 10] (w.alloc (.cells (tCourse.map fun c => .int .u8 c.toNat).toArray 5 fr)) fun e w' => Below w.heap.size w w' ∧ e = .returned (.tuple #[.agg crsZ.toArray, .int .i64 10, .int .i64 60]) := by
  have hb := (Below.refl w.heap.size w).alloc (Nat.le_refl _) (.cells (tCourse.map fun c => .int .u8 c.toNat).toArray 5 fr)
  exact (course_short _ (h.gl.bel' hb) (h.gs.e.bel hb) 0 _ 10 (BAt.new w tCourse fr)).mono fun e w' h => ⟨below_step h.1, h.2⟩
theorem con6 (w : World) (h : GlA w) (fr : Nat × Nat) : Calls Tryz.prog 13 #[.slice (some ⟨w.heap.size, 0, none⟩) 1 1] (w.alloc (.cells (tx6.map fun c => .int .u8 c.toNat).toArray 5 fr)) fun e w' => Below w.heap.size w w' ∧ e = .returned (.tuple #[.slice none 0 0, .int .i64 0, .int .i64 50]) := by
  have hb := (Below.refl w.heap.size w).alloc (Nat.le_refl _) (.cells (tx6.map fun c => .int .u8 c.toNat).toArray 5 fr)
  have hr := steps_top tx6 (by decide) _ (h.gl.bel' hb) (h.gs.bel hb) 0 _ 1 (BAt.new w tx6 fr)
  rw [rd6] at hr
  exact hr.mono fun e w' h => ⟨below_step h.1, h.2⟩
theorem con7 (w : World) (h : GlA w) : Calls Tryz.prog 14 #[.slice none 0 0] w fun e w' => Below w.heap.size w w' ∧ e = .returned (.tuple #[.agg #[.int .i64 0, .int .i64 0, .int .i64 0, .slice none 0 0], .int .i64 0, .int .i64 60]) := by
  have hr := condition_top [] (by decide) w h.gl h.gs.e 0 none 0 ⟨fun h => absurd rfl h⟩
  rw [rd7] at hr
  exact hr
end Go.Proofs.YtdhdjfkknfbmhaaGreatDoor
/- What the examples' comparisons call. -/
namespace Go.Proofs.YtdhdjfkknfbmhaaGreatDoor
open Go.RowKit

theorem held8 {a0 a1 a2 a3 a4 a5 a6 a7 : Prop} {W w' : World} (h : a0 ∧ a1 ∧ a2 ∧ a3 ∧ a4 ∧ a5 ∧ a6 ∧ a7 ∧ Hid (Below W.heap.size W w')) : Below W.heap.size W w' := h.2.2.2.2.2.2.2.2.out
theorem hAL {V wd : World} (h : Below V.heap.size V wd) (v n : Int) : Calls Tryz.prog 19 #[.int .i64 v, .int .i64 n] wd fun e w' => e = .returned (.agg #[.int .i64 1, .int .i64 v, .int .i64 n, .slice none 0 0]) ∧ Hid (Below V.heap.size V w') :=
  (lAtLeast v n wd).mono fun _ _ hh => ⟨hh.1, Lib.hid (h.trans (hh.2.mono h.size))⟩
theorem hJ1 {V wd : World} (h : Below V.heap.size V wd) : Calls Tryz.prog 20 #[.int .i64 2, .slice (some ⟨wd.heap.size, 0, none⟩) 2 2] (wd.alloc (.cells #[.int .i64 1, .int .i64 3, .int .i64 1, .slice none 0 0, .int .i64 1, .int .i64 2, .int .i64 4, .slice none 0 0] 49)) fun e w' =>
    e = .returned (.agg #[.int .i64 2, .int .i64 0, .int .i64 0, .slice (some ⟨wd.heap.size, 0, none⟩) 2 2]) ∧ Hid (Below V.heap.size V w') ∧ Hid (CdIn w' (fun _ => True) c1S (some ⟨wd.heap.size, 0, none⟩) 2) := by
  have hc := CdIn.two (CdIn.leaf (w := wd) (Q := fun _ => True) (k := 1) (v := 3) (n := 1)) (CdIn.leaf (k := 1) (v := 2) (n := 4)) 2 0 0
  have hb := h.alloc h.size (.cells #[.int .i64 1, .int .i64 3, .int .i64 1, .slice none 0 0, .int .i64 1, .int .i64 2, .int .i64 4, .slice none 0 0] 49)
  exact (lJoin 2 _ 2 2 _).mono fun e w' hh => ⟨hh.1, Lib.hid (hb.trans (hh.2.mono hb.size)), Lib.hid ((hc.bel hh.2).mono fun _ _ => trivial)⟩
theorem hNT {V wd : World} (h : Below V.heap.size V wd) : Calls Tryz.prog 21 #[.agg #[.int .i64 1, .int .i64 2, .int .i64 3, .slice none 0 0]] wd fun e w' =>
    ∃ q d, e = .returned (.agg #[.int .i64 4, .int .i64 0, .int .i64 0, .slice q 1 d]) ∧ Hid (Below V.heap.size V w') ∧ Hid (CdIn w' (fun _ => True) (negatedS (.atLeast 2 3)) q d) := by
  refine (lNot (.atLeast 2 3) none 0 (fun _ => True) wd CdIn.leaf).mono ?_
  rintro e w' ⟨q, d, rfl, hc, hb⟩
  exact ⟨q, d, rfl, Lib.hid (h.trans (hb.mono h.size)), Lib.hid (hc.mono fun _ _ => trivial)⟩
theorem hJ3 {V wd : World} (h : Below V.heap.size V wd) {q : Option Addr} {d : Nat} (hn : CdIn wd (fun _ => True) (negatedS (.atLeast 2 3)) q d) : Calls Tryz.prog 20 #[.int .i64 2, .slice (some ⟨wd.heap.size, 0, none⟩) 2 2] (wd.alloc (.cells #[.int .i64 1, .int .i64 2, .int .i64 2, .slice none 0 0, .int .i64 4, .int .i64 0, .int .i64 0, .slice q 1 d] 49)) fun e w' =>
    e = .returned (.agg #[.int .i64 2, .int .i64 0, .int .i64 0, .slice (some ⟨wd.heap.size, 0, none⟩) 2 2]) ∧ Hid (Below V.heap.size V w') ∧ Hid (CdIn w' (fun _ => True) c3S (some ⟨wd.heap.size, 0, none⟩) 2) := by
  have hc := CdIn.two (CdIn.leaf (w := wd) (Q := fun _ => True) (k := 1) (v := 2) (n := 2)) hn 2 0 0
  have hb := h.alloc h.size (.cells #[.int .i64 1, .int .i64 2, .int .i64 2, .slice none 0 0, .int .i64 4, .int .i64 0, .int .i64 0, .slice q 1 d] 49)
  exact (lJoin 2 _ 2 2 _).mono fun e w' hh => ⟨hh.1, Lib.hid (hb.trans (hh.2.mono hb.size)), Lib.hid ((hc.bel hh.2).mono fun _ _ => trivial)⟩
theorem hSC {V wd : World} (h : Below V.heap.size V wd) {a b : Cd} {Q : Nat → Prop} {p p' : Option Addr} {k k' : Nat} (ha : CdIn V Q (.mk 2 0 0 [a, b]) p k) (hb : CdIn wd (fun _ => True) (.mk 2 0 0 [a, b]) p' k') :
    Calls Tryz.prog 17 #[.agg #[.int .i64 2, .int .i64 0, .int .i64 0, .slice p 2 k], .agg #[.int .i64 2, .int .i64 0, .int .i64 0, .slice p' 2 k']] wd fun e w' => e = .returned (.bool true) ∧ Hid (Below V.heap.size V w') :=
  (sameCond_any ha wd h _ _ _ hb).mono fun _ _ hh => ⟨hh.1, Lib.hid (h.trans (hh.2.mono h.size))⟩
theorem hSC1 {V wd : World} (h : Below V.heap.size V wd) {Q : Nat → Prop} {p p' : Option Addr} {k k' : Nat} (ha : CdIn V Q c1S p k) (hb : CdIn wd (fun _ => True) c1S p' k') :
    Calls Tryz.prog 17 #[.agg #[.int .i64 2, .int .i64 0, .int .i64 0, .slice p 2 k], .agg #[.int .i64 2, .int .i64 0, .int .i64 0, .slice p' 2 k']] wd fun e w' => e = .returned (.bool true) ∧ Hid (Below V.heap.size V w') := hSC h ha hb
theorem hSC3 {V wd : World} (h : Below V.heap.size V wd) {Q : Nat → Prop} {p p' : Option Addr} {k k' : Nat} (ha : CdIn V Q c3S p k) (hb : CdIn wd (fun _ => True) c3S p' k') :
    Calls Tryz.prog 17 #[.agg #[.int .i64 2, .int .i64 0, .int .i64 0, .slice p 2 k], .agg #[.int .i64 2, .int .i64 0, .int .i64 0, .slice p' 2 k']] wd fun e w' => e = .returned (.bool true) ∧ Hid (Below V.heap.size V w') := hSC h ha hb
def s4O : Obj := .cells #[.int .i64 1, .int .i64 1, .int .i64 0, .int .i64 0, .int .i64 0, .slice none 0 0, .slice none 0 0, .slice none 0 0, .int .i64 1, .int .i64 4, .int .i64 0, .int .i64 0, .int .i64 0, .slice none 0 0, .slice none 0 0, .slice none 0 0] 73
theorem s4O_in (w : World) : SsIn (w.alloc s4O) (fun _ => True) s4S (some ⟨w.heap.size, 0, none⟩) 2 := by
  have hc := (Cells.new w [.int .i64 1, .int .i64 1, .int .i64 0, .int .i64 0, .int .i64 0, .slice none 0 0, .slice none 0 0, .slice none 0 0, .int .i64 1, .int .i64 4, .int .i64 0, .int .i64 0, .int .i64 0, .slice none 0 0, .slice none 0 0, .slice none 0 0] 73 (fun o => by simp [go_sem])).c
  refine .mk s4S _ 2 w.heap.size 0 (fun _ => ⟨none, 0, none, 0, none, 0⟩) (by decide) (by decide) (by decide) (fun h => by cases h) (fun _ => ⟨rfl, trivial, by simp⟩) (fun i hi j u hu => ?_) (fun i hi => ?_) (fun i hi => ?_) (fun i hi => ?_)
  · have hj : j < 8 := by have := (List.getElem?_eq_some_iff.1 hu).1; simpa [cellsS] using this
    match i, hi with
    | 0, _ => exact hc _ _ (by rw [← hu]; match j, hj with | 0, _ => rfl | 1, _ => rfl | 2, _ => rfl | 3, _ => rfl | 4, _ => rfl | 5, _ => rfl | 6, _ => rfl | 7, _ => rfl)
    | 1, _ => exact hc _ _ (by rw [← hu]; match j, hj with | 0, _ => rfl | 1, _ => rfl | 2, _ => rfl | 3, _ => rfl | 4, _ => rfl | 5, _ => rfl | 6, _ => rfl | 7, _ => rfl)
  · match i, hi with
    | 0, _ => exact CdIn.leaf
    | 1, _ => exact CdIn.leaf
  · match i, hi with
    | 0, _ => exact SsIn.nil
    | 1, _ => exact SsIn.nil
  · match i, hi with
    | 0, _ => exact SsIn.nil
    | 1, _ => exact SsIn.nil
theorem hSS {V wd : World} (h : Below V.heap.size V wd) {Q : Nat → Prop} {p : Option Addr} {k : Nat} (ha : SsIn V Q s4S p k) :
    Calls Tryz.prog 16 #[.slice p 2 k, .slice (some ⟨wd.heap.size, 0, none⟩) 2 2] (wd.alloc s4O) fun e w' => e = .returned (.bool true) ∧ Hid (Below V.heap.size V w') := by
  have hb := h.alloc h.size s4O
  exact (sameSteps_any ha _ hb _ _ _ (s4O_in wd)).mono fun e w' hh => ⟨hh.1, Lib.hid (hb.trans (hh.2.mono hb.size))⟩
end Go.Proofs.YtdhdjfkknfbmhaaGreatDoor
/- The examples hold: sane. -/
namespace Go.Proofs.YtdhdjfkknfbmhaaGreatDoor
open Go.RowKit

set_option maxHeartbeats 8000000 in
set_option maxRecDepth 100000 in
theorem sane_any (w : World) (hG : GlA w) : Calls Tryz.prog 9 #[] w fun e w' => e = .returned (.bool true) ∧ Below w.heap.size w w' := by
  have HG := Lib.hid hG
  clear hG
  have HB0 := Lib.hid (Below.refl w.heap.size w)
  have kc := fun (w : World) (C : Array Value) (n c : Nat) => Lib.run_convert_bytes_const (P := Tryz.prog) w 22 5 C n c Tryz.underlying22 Tryz.underlying5
  go_enter Tryz.func9, Tryz.ntmps9
  have HB := HB0
  go_wp2_with fail
  go_at_call 14
  refine (con1 w (HG.out.bel HB.out) _).mono ?_
  rintro e w1 ⟨hb, p1, k1, rfl, hc⟩
  have hA := (Below.refl w1.heap.size w1).alloc (Nat.le_refl _) (.cells #[.int .i64 2, .int .i64 0, .int .i64 0, .slice p1 2 k1] 49)
  have hbA := hb.trans (hA.mono hb.size)
  have HC1 := Lib.hid (hc.bel hA)
  have HZ1 := Lib.hid (Cells.new w1 [.int .i64 2, .int .i64 0, .int .i64 0, .slice p1 2 k1] 49 (fun o => by simp [go_sem]))
  clear hc
  have HB := Lib.hid (HB.out.trans (hbA.mono HB.out.size))
  clear hb hA hbA
  go_upto_region 2 with fail
  generalize w1.alloc (.cells #[.int .i64 2, .int .i64 0, .int .i64 0, .slice p1 2 k1] 49) = v1 at *
  go_wp2_with fail
  go_at_call 14
  refine (con2 v1 (HG.out.bel HB.out) _).mono ?_
  rintro e w2 ⟨hb, rfl⟩
  have hA := (Below.refl w2.heap.size w2).alloc (Nat.le_refl _) (.cells #[.int .i64 0, .int .i64 0, .int .i64 0, .slice none 0 0] 49)
  have hbA := hb.trans (hA.mono hb.size)
  have HC1 := Lib.hid (HC1.out.bel hbA)
  have HZ1 := Lib.hid (HZ1.out.bel hbA)
  have HB := Lib.hid (HB.out.trans (hbA.mono HB.out.size))
  clear hb hA hbA
  go_upto_region 3 with fail
  generalize w2.alloc (.cells #[.int .i64 0, .int .i64 0, .int .i64 0, .slice none 0 0] 49) = v2 at *
  go_wp2_with fail
  go_at_call 14
  refine (con3 v2 (HG.out.bel HB.out) _).mono ?_
  rintro e w3 ⟨hb, p3, k3, rfl, hc⟩
  have hA := (Below.refl w3.heap.size w3).alloc (Nat.le_refl _) (.cells #[.int .i64 2, .int .i64 0, .int .i64 0, .slice p3 2 k3] 49)
  have hbA := hb.trans (hA.mono hb.size)
  have HC3 := Lib.hid (hc.bel hA)
  have HZ3 := Lib.hid (Cells.new w3 [.int .i64 2, .int .i64 0, .int .i64 0, .slice p3 2 k3] 49 (fun o => by simp [go_sem]))
  clear hc
  have HC1 := Lib.hid (HC1.out.bel hbA)
  have HZ1 := Lib.hid (HZ1.out.bel hbA)
  have HB := Lib.hid (HB.out.trans (hbA.mono HB.out.size))
  clear hb hA hbA
  go_upto_region 4 with fail
  generalize w3.alloc (.cells #[.int .i64 2, .int .i64 0, .int .i64 0, .slice p3 2 k3] 49) = v3 at *
  go_wp2_with fail
  go_at_call 13
  refine (con4 v3 (HG.out.bel HB.out) _).mono ?_
  rintro e w4 ⟨hb, p4, k4, rfl, hs⟩
  have HS4 := Lib.hid hs
  have HC1 := Lib.hid (HC1.out.bel hb)
  have HZ1 := Lib.hid (HZ1.out.bel hb)
  have HC3 := Lib.hid (HC3.out.bel hb)
  have HZ3 := Lib.hid (HZ3.out.bel hb)
  have HB := Lib.hid (HB.out.trans (hb.mono HB.out.size))
  clear hb hs
  go_wp2_with fail
  go_at_call 12
  refine (con5 w4 (HG.out.bel HB.out) _).mono ?_
  rintro e w5 ⟨hb, rfl⟩
  have hA := (Below.refl w5.heap.size w5).alloc (Nat.le_refl _) crsZero
  have hbA := hb.trans (hA.mono hb.size)
  have HC1 := Lib.hid (HC1.out.bel hbA)
  have HZ1 := Lib.hid (HZ1.out.bel hbA)
  have HC3 := Lib.hid (HC3.out.bel hbA)
  have HZ3 := Lib.hid (HZ3.out.bel hbA)
  have HS4 := Lib.hid (HS4.out.bel hbA)
  have HB := Lib.hid (HB.out.trans (hbA.mono HB.out.size))
  unfold crsZero at HB HS4 HC1 HC3 HZ1 HZ3
  clear hb hA hbA
  unfold crsZ at *
  go_upto_region 6 with fail
  generalize w5.alloc (.cells #[.string ⟨#[]⟩, .slice none 0 0, .slice none 0 0, .slice none 0 0, .slice none 0 0, .slice none 0 0, .slice none 0 0, .slice none 0 0, .slice none 0 0, .int .i64 0, .int .i64 0, .int .i64 0, .int .i64 0, .int .i64 0, .int .i64 0, .int .i64 0] 42) = v5 at *
  go_wp2_with fail
  go_at_call 13
  refine (con6 v5 (HG.out.bel HB.out) _).mono ?_
  rintro e w6 ⟨hb, rfl⟩
  have HC1 := Lib.hid (HC1.out.bel hb)
  have HZ1 := Lib.hid (HZ1.out.bel hb)
  have HC3 := Lib.hid (HC3.out.bel hb)
  have HZ3 := Lib.hid (HZ3.out.bel hb)
  have HS4 := Lib.hid (HS4.out.bel hb)
  have HB := Lib.hid (HB.out.trans (hb.mono HB.out.size))
  clear hb
  go_wp2_with fail
  go_at_call 14
  refine (con7 w6 (HG.out.bel HB.out)).mono ?_
  rintro e w7 ⟨hb, rfl⟩
  have hA := (Below.refl w7.heap.size w7).alloc (Nat.le_refl _) (.cells #[.int .i64 0, .int .i64 0, .int .i64 0, .slice none 0 0] 49)
  have hbA := hb.trans (hA.mono hb.size)
  have HC1 := Lib.hid (HC1.out.bel hbA)
  have HZ1 := Lib.hid (HZ1.out.bel hbA)
  have HC3 := Lib.hid (HC3.out.bel hbA)
  have HZ3 := Lib.hid (HZ3.out.bel hbA)
  have HS4 := Lib.hid (HS4.out.bel hbA)
  have HB := Lib.hid (HB.out.trans (hbA.mono HB.out.size))
  clear hb hA hbA
  go_upto_region 8 with fail
  generalize w7.alloc (.cells #[.int .i64 0, .int .i64 0, .int .i64 0, .slice none 0 0] 49) = v7 at *
  have HX : Hid (∀ w', Below v7.heap.size v7 w' → w'.cell? ⟨w1.heap.size, 0, none⟩ = some (.int .i64 2) ∧ w'.cell? ⟨w1.heap.size, 1, none⟩ = some (.int .i64 0) ∧ w'.cell? ⟨w1.heap.size, 2, none⟩ = some (.int .i64 0) ∧ w'.cell? ⟨w1.heap.size, 3, none⟩ = some (.slice p1 2 k1) ∧ w'.cell? ⟨w3.heap.size, 0, none⟩ = some (.int .i64 2) ∧ w'.cell? ⟨w3.heap.size, 1, none⟩ = some (.int .i64 0) ∧ w'.cell? ⟨w3.heap.size, 2, none⟩ = some (.int .i64 0) ∧ w'.cell? ⟨w3.heap.size, 3, none⟩ = some (.slice p3 2 k3) ∧ Hid (Below v7.heap.size v7 w')) := Lib.hid fun w' h => by
    have h1 := (HZ1.out.bel h).c
    have h3 := (HZ3.out.bel h).c
    exact ⟨h1 0 _ rfl, h1 1 _ rfl, h1 2 _ rfl, h1 3 _ rfl, h3 0 _ rfl, h3 1 _ rfl, h3 2 _ rfl, h3 3 _ rfl, Lib.hid h⟩
  clear HZ1 HZ3 HB0 kc
  go_region_held3 (fun w' => w'.cell? ⟨w1.heap.size, 0, none⟩ = some (.int .i64 2) ∧ w'.cell? ⟨w1.heap.size, 1, none⟩ = some (.int .i64 0) ∧ w'.cell? ⟨w1.heap.size, 2, none⟩ = some (.int .i64 0) ∧ w'.cell? ⟨w1.heap.size, 3, none⟩ = some (.slice p1 2 k1) ∧ w'.cell? ⟨w3.heap.size, 0, none⟩ = some (.int .i64 2) ∧ w'.cell? ⟨w3.heap.size, 1, none⟩ = some (.int .i64 0) ∧ w'.cell? ⟨w3.heap.size, 2, none⟩ = some (.int .i64 0) ∧ w'.cell? ⟨w3.heap.size, 3, none⟩ = some (.slice p3 2 k3) ∧ Hid (Below v7.heap.size v7 w'))
    (first
      | with_reducible exact HX.out _ (Below.refl _ _).drew
      | with_reducible exact HX.out _ (Below.refl _ _)
      | with_reducible exact HX.out _ hb1.out
      | with_reducible exact HX.out _ (bel_alloc hb1.out _)
      | assumption | go_keep)
    (first
      | (go_at_call 19; with_reducible refine (hAL (held8 (W := v7) (by assumption)) _ _).mono ?_; rintro e w' ⟨rfl, hb1⟩)
      | (go_at_call 21; with_reducible refine (hNT (held8 (W := v7) (by assumption))).mono ?_; rintro e w' ⟨q9, d9, rfl, hb1, hn1⟩)
      | (go_at_call 20; with_reducible refine (hJ1 hb1.out).mono ?_; rintro e w' ⟨rfl, hb1, hcd1⟩)
      | (go_at_call 20; with_reducible refine (hJ3 hb1.out hn1.out).mono ?_; rintro e w' ⟨rfl, hb1, hcd3⟩)
      | (go_at_call 17; with_reducible refine (hSC1 hb1.out HC1.out hcd1.out).mono ?_; rintro e w' ⟨rfl, hb1⟩)
      | (go_at_call 17; with_reducible refine (hSC3 hb1.out HC3.out hcd3.out).mono ?_; rintro e w' ⟨rfl, hb1⟩))
  clear HX HC1 HC3
  go_wp2_with (go_at_call 16; refine (hSS hb1.out HS4.out).mono ?_; rintro e w9 ⟨rfl, hb3⟩)
  go_ret
  exact ⟨rfl, HB.out.trans (hb3.out.mono HB.out.size)⟩
end Go.Proofs.YtdhdjfkknfbmhaaGreatDoor
