/- The source: a text that is read. -/
import Derived.Test.YtdhdjfkknfbmhaaGreatDoorKUnq
import Derived.Test.YtdhdjfkknfbmhaaGreatDoorKSign
import Derived.Test.YtdhdjfkknfbmhaaGreatDoorKTime2
namespace Go.Proofs.YtdhdjfkknfbmhaaGreatDoor
open Go.RowKit

/-- All blocks but sb are as they were. -/
structure Kp (w w' : World) (sb : Nat) : Prop where
  os : w'.os = w.os
  tape : w'.tape = w.tape
  output : w'.output = w.output
  size : w.heap.size ≤ w'.heap.size
  block : ∀ k, k < w.heap.size → k ≠ sb → w'.heap[k]? = w.heap[k]?
theorem Kp.refl (w : World) (sb : Nat) : Kp w w sb := ⟨rfl, rfl, rfl, Nat.le_refl _, fun _ _ _ => rfl⟩
theorem Kp.trans {w w1 w2 : World} {sb : Nat} (h : Kp w w1 sb) (h1 : Kp w1 w2 sb) : Kp w w2 sb :=
  ⟨h1.os.trans h.os, h1.tape.trans h.tape, h1.output.trans h.output, Nat.le_trans h.size h1.size, fun k hk hne => (h1.block k (Nat.lt_of_lt_of_le hk h.size) hne).trans (h.block k hk hne)⟩
theorem Kp.ofBelow {w w' : World} {sb m : Nat} (hb : Below m w w') (hm : w.heap.size ≤ m) : Kp w w' sb := ⟨hb.os, hb.tape, hb.output, hb.size, fun k hk _ => hb.block k (by omega)⟩
theorem Kp.below {w w' : World} {sb : Nat} (h : Kp w w' sb) {m : Nat} (hm : m ≤ sb) (hs : m ≤ w.heap.size) : Below m w w' := ⟨h.os, h.tape, h.output, h.size, fun k hk => h.block k (by omega) (by omega)⟩
theorem Kp.drew {w w' : World} {sb : Nat} (h : Kp w w' sb) : Kp w w'.drew sb := ⟨h.os, h.tape, h.output, h.size, h.block⟩
theorem Kp.alloc {w w' : World} {sb : Nat} (h : Kp w w' sb) (o : Obj) : Kp w (w'.alloc o) sb := h.trans (Kp.ofBelow ((Below.refl w'.heap.size w').alloc (Nat.le_refl _) o) (Nat.le_refl _))
theorem Kp.set {w w' : World} {sb : Nat} (h : Kp w w' sb) {b : Nat} (hb : w.heap.size ≤ b) (o : Nat) (u : Value) : Kp w (w'.setCell ⟨b, o, none⟩ u) sb :=
  ⟨h.os, h.tape, h.output, by simpa using h.size, fun k hk hne => (heap_setCell_other _ _ _ _ (by dsimp only; omega)).trans (h.block k hk hne)⟩
theorem Gl.kp {w w' : World} {sb : Nat} (h : Gl w) (hk : Kp w w' sb) (h9 : 12 ≤ sb) : Gl w' := h.bel (hk.below h9 h.size) (Nat.le_refl _)

def fnV (f : Nat) : Value := .func (Fn.func f) #[] #[]
/-- The source lies in block sb, its readers in rb. -/
structure Src (w : World) (sb rb : Nat) (l : Bs) (at' br : Nat) : Prop where
  lt : sb < w.heap.size
  rlt : rb < w.heap.size
  ne : rb ≠ sb
  h9 : 12 ≤ sb
  fz : ∀ o, w.frozen? ⟨sb, o, none⟩ = false
  c0 : w.cell? ⟨sb, 0, none⟩ = some (.string (S l))
  c1 : w.cell? ⟨sb, 1, none⟩ = some (.slice (some ⟨rb, 0, none⟩) 4 4)
  c2 : w.cell? ⟨sb, 2, none⟩ = some (.int .i64 at')
  c3 : w.cell? ⟨sb, 3, none⟩ = some (.int .i64 br)
  rd : ∀ i, i < 8 → w.cell? ⟨rb, i, none⟩ = some (fnV (46 + i))
  le : at' ≤ l.length
  len : l.length ≤ 80000
  brl : br ≤ 200000
theorem Src.same {w w' : World} {sb rb : Nat} {l : Bs} {at' br : Nat} (h : Src w sb rb l at' br) (hsz : w.heap.size ≤ w'.heap.size) (hb : ∀ k, k < w.heap.size → w'.heap[k]? = w.heap[k]?) : Src w' sb rb l at' br := by
  have hc := fun o => World.cell?_of_block (a := ⟨sb, o, none⟩) (hb sb h.lt)
  have hr := fun o => World.cell?_of_block (a := ⟨rb, o, none⟩) (hb rb h.rlt)
  exact ⟨Nat.lt_of_lt_of_le h.lt hsz, Nat.lt_of_lt_of_le h.rlt hsz, h.ne, h.h9, fun o => (World.frozen?_of_block (a := ⟨sb, o, none⟩) (hb sb h.lt)).trans (h.fz o), (hc 0).trans h.c0, (hc 1).trans h.c1, (hc 2).trans h.c2, (hc 3).trans h.c3, fun i hi => (hr i).trans (h.rd i hi), h.le, h.len, h.brl⟩
theorem Src.bel {w w' : World} {sb rb : Nat} {l : Bs} {at' br m : Nat} (h : Src w sb rb l at' br) (hb : Below m w w') (hm : w.heap.size ≤ m) : Src w' sb rb l at' br :=
  h.same hb.size fun k hk => hb.block k (by omega)
theorem Src.drew {w : World} {sb rb : Nat} {l : Bs} {at' br : Nat} (h : Src w sb rb l at' br) : Src w.drew sb rb l at' br := h.same (Nat.le_refl _) fun _ _ => rfl
theorem Src.alloc {w : World} {sb rb : Nat} {l : Bs} {at' br : Nat} (h : Src w sb rb l at' br) (o : Obj) : Src (w.alloc o) sb rb l at' br := h.bel ((Below.refl w.heap.size w).alloc (Nat.le_refl _) o) (Nat.le_refl _)
theorem Src.setOther {w : World} {sb rb : Nat} {l : Bs} {at' br : Nat} (h : Src w sb rb l at' br) {b : Nat} (h1 : b ≠ sb) (h2 : b ≠ rb) (o : Nat) (u : Value) : Src (w.setCell ⟨b, o, none⟩ u) sb rb l at' br := by
  have hs : (w.setCell ⟨b, o, none⟩ u).heap[sb]? = w.heap[sb]? := heap_setCell_other _ _ _ _ (by dsimp only; omega)
  have hr' : (w.setCell ⟨b, o, none⟩ u).heap[rb]? = w.heap[rb]? := heap_setCell_other _ _ _ _ (by dsimp only; omega)
  have hc := fun o' => World.cell?_of_block (a := ⟨sb, o', none⟩) hs
  have hr := fun o' => World.cell?_of_block (a := ⟨rb, o', none⟩) hr'
  exact ⟨by simpa using h.lt, by simpa using h.rlt, h.ne, h.h9, fun o' => (World.frozen?_of_block (a := ⟨sb, o', none⟩) hs).trans (h.fz o'), (hc 0).trans h.c0, (hc 1).trans h.c1, (hc 2).trans h.c2, (hc 3).trans h.c3, fun i hi => (hr i).trans (h.rd i hi), h.le, h.len, h.brl⟩
theorem Src.moved {w : World} {sb rb : Nat} {l : Bs} {at' br : Nat} (h : Src w sb rb l at' br) (n : Nat) (hn : n ≤ l.length) : Src (w.setCell ⟨sb, 2, none⟩ (.int .i64 n)) sb rb l n br ∧ Kp w (w.setCell ⟨sb, 2, none⟩ (.int .i64 n)) sb := by
  obtain ⟨h1, h2, h3, h4, h5, h6, h7, h8, h9, h10, h11, h12, h13⟩ := h
  refine ⟨⟨by simpa using h1, by simpa using h2, h3, h4, fun o => by simpa using h5 o, ?_, ?_, World.cell?_setCell_same _ _ _ h8, ?_, fun i hi => ?_, hn, h12, h13⟩, rfl, rfl, rfl, by simp, fun k hk hne => heap_setCell_other _ _ _ _ hne⟩
  · rw [World.cell?_setCell_other _ _ _ _ (by simp)]; exact h6
  · rw [World.cell?_setCell_other _ _ _ _ (by simp)]; exact h7
  · rw [World.cell?_setCell_other _ _ _ _ (by simp)]; exact h9
  · exact (World.cell?_of_block (a := ⟨rb, i, none⟩) (heap_setCell_other _ _ _ _ (by dsimp only; omega))).trans (h10 i hi)
theorem Src.barren {w : World} {sb rb : Nat} {l : Bs} {at' br : Nat} (h : Src w sb rb l at' br) (n : Nat) (hn : n ≤ 200000) : Src (w.setCell ⟨sb, 3, none⟩ (.int .i64 n)) sb rb l at' n ∧ Kp w (w.setCell ⟨sb, 3, none⟩ (.int .i64 n)) sb := by
  obtain ⟨h1, h2, h3, h4, h5, h6, h7, h8, h9, h10, h11, h12, h13⟩ := h
  refine ⟨⟨by simpa using h1, by simpa using h2, h3, h4, fun o => by simpa using h5 o, ?_, ?_, ?_, World.cell?_setCell_same _ _ _ h9, fun i hi => ?_, h11, h12, hn⟩, rfl, rfl, rfl, by simp, fun k hk hne => heap_setCell_other _ _ _ _ hne⟩
  · rw [World.cell?_setCell_other _ _ _ _ (by simp)]; exact h6
  · rw [World.cell?_setCell_other _ _ _ _ (by simp)]; exact h7
  · rw [World.cell?_setCell_other _ _ _ _ (by simp)]; exact h8
  · exact (World.cell?_of_block (a := ⟨rb, i, none⟩) (heap_setCell_other _ _ _ _ (by dsimp only; omega))).trans (h10 i hi)

theorem rest_any (w : World) (sb rb : Nat) (l : Bs) (at' br : Nat) (h : Src w sb rb l at' br) :
    Calls Tryz.prog 55 #[.pointer (some ⟨sb, 0, none⟩)] w fun e w' => e = .returned (.string (S (l.drop at'))) ∧ w' = w.drew := by
  obtain ⟨h1, h2, h3, h4, h5, h6, h7, h8, h9, h10, h11, h12, h13⟩ := h
  have hsz := S_size l
  have HX : Hid ((S l).extract at' l.length = S (l.drop at')) := Lib.hid (by rw [S_extract]; simp)
  clear h10 h5
  go_enter Tryz.func55, Tryz.ntmps55
  go_wp2_with fail
  go_region
  go_wp2_with fail
  go_ret
  rw [HX.out]
  exact ⟨rfl, rfl⟩

def tokV (k : Int) (t : Bs) (a : Nat) : Value := .agg #[.int .i64 k, .string (S t), .int .i64 a]

/-- Three cells of a block laid anew. -/
def tok3 (w : World) (b : Nat) (v0 v1 v2 : Value) : World := ((w.setCell ⟨b, 0, none⟩ v0).setCell ⟨b, 1, none⟩ v1).setCell ⟨b, 2, none⟩ v2
theorem tok3_cells {w : World} {b : Nat} {u0 u1 u2 : Value} (v0 v1 v2 : Value) (h0 : w.cell? ⟨b, 0, none⟩ = some u0) (h1 : w.cell? ⟨b, 1, none⟩ = some u1) (h2 : w.cell? ⟨b, 2, none⟩ = some u2) :
    (tok3 w b v0 v1 v2).cell? ⟨b, 0, none⟩ = some v0 ∧ (tok3 w b v0 v1 v2).cell? ⟨b, 1, none⟩ = some v1 ∧ (tok3 w b v0 v1 v2).cell? ⟨b, 2, none⟩ = some v2 := by
  have k0 := World.cell?_setCell_same w ⟨b, 0, none⟩ v0 h0
  have k1 : (w.setCell ⟨b, 0, none⟩ v0).cell? ⟨b, 1, none⟩ = some u1 := by rw [World.cell?_setCell_other _ _ _ _ (by simp)]; exact h1
  have k2 : (w.setCell ⟨b, 0, none⟩ v0).cell? ⟨b, 2, none⟩ = some u2 := by rw [World.cell?_setCell_other _ _ _ _ (by simp)]; exact h2
  have m1 := World.cell?_setCell_same _ ⟨b, 1, none⟩ v1 k1
  have m2 : ((w.setCell ⟨b, 0, none⟩ v0).setCell ⟨b, 1, none⟩ v1).cell? ⟨b, 2, none⟩ = some u2 := by rw [World.cell?_setCell_other _ _ _ _ (by simp)]; exact k2
  refine ⟨?_, ?_, World.cell?_setCell_same _ ⟨b, 2, none⟩ v2 m2⟩
  · unfold tok3
    rw [World.cell?_setCell_other _ _ _ _ (by simp), World.cell?_setCell_other _ _ _ _ (by simp)]; exact k0
  · unfold tok3
    rw [World.cell?_setCell_other _ _ _ _ (by simp)]; exact m1
theorem tok3_src {w : World} {sb rb : Nat} {l : Bs} {at' br b : Nat} (h : Src w sb rb l at' br) (h1 : b ≠ sb) (h2 : b ≠ rb) (v0 v1 v2 : Value) : Src (tok3 w b v0 v1 v2) sb rb l at' br :=
  ((h.setOther h1 h2 0 v0).setOther h1 h2 1 v1).setOther h1 h2 2 v2
theorem tok3_kp {w w1 : World} {sb b : Nat} (h : Kp w w1 sb) (hb : w.heap.size ≤ b) (v0 v1 v2 : Value) : Kp w (tok3 w1 b v0 v1 v2) sb := ((h.set hb 0 v0).set hb 1 v1).set hb 2 v2
theorem tok3_size {w : World} {b : Nat} {v0 v1 v2 : Value} : (tok3 w b v0 v1 v2).heap.size = w.heap.size := by simp [tok3]
/-- The end of a function that hands back a token. -/
theorem tok3_ret {w : World} {b : Nat} {u0 u1 u2 : Value} (v0 v1 v2 : Value) (o : Obj) (hb : b < w.heap.size) (h0 : w.cell? ⟨b, 0, none⟩ = some u0) (h1 : w.cell? ⟨b, 1, none⟩ = some u1) (h2 : w.cell? ⟨b, 2, none⟩ = some u2) :
    ((tok3 w b v0 v1 v2).alloc o).cell? ⟨b, 0, none⟩ = some v0 ∧ ((tok3 w b v0 v1 v2).alloc o).cell? ⟨b, 1, none⟩ = some v1 ∧ ((tok3 w b v0 v1 v2).alloc o).cell? ⟨b, 2, none⟩ = some v2 := by
  obtain ⟨c0, c1, c2⟩ := tok3_cells v0 v1 v2 h0 h1 h2
  have hB := ((Below.refl (tok3 w b v0 v1 v2).heap.size (tok3 w b v0 v1 v2)).alloc (Nat.le_refl _) o)
  have hlt : b < (tok3 w b v0 v1 v2).heap.size := by rw [tok3_size]; exact hb
  exact ⟨(hB.cell (p := ⟨b, 0, none⟩) hlt).trans c0, (hB.cell (p := ⟨b, 1, none⟩) hlt).trans c1, (hB.cell (p := ⟨b, 2, none⟩) hlt).trans c2⟩
theorem heldOf {wA w1 : World} {sb : Nat} {v : Value} (h : wA.cell? ⟨sb, 2, none⟩ = some v) (hs : sb < wA.heap.size) (hb : Below wA.heap.size wA w1) : w1.cell? ⟨sb, 2, none⟩ = some v ∧ Hid (Below wA.heap.size wA w1) :=
  ⟨(hb.cell (p := ⟨sb, 2, none⟩) hs).trans h, Lib.hid hb⟩
theorem heldB {p : Prop} {wA w1 : World} (h : p ∧ Hid (Below wA.heap.size wA w1)) : Below wA.heap.size wA w1 := h.2.out
set_option maxHeartbeats 2000000 in
set_option maxRecDepth 100000 in
theorem take_any (w : World) (sb rb : Nat) (l : Bs) (at' br : Nat) (h : Src w sb rb l at' br) (k : Int) (n : Nat) (hn : at' + n ≤ l.length) :
    Calls Tryz.prog 56 #[.pointer (some ⟨sb, 0, none⟩), .int .i64 k, .int .i64 n] w fun e w' => e = .returned (tokV k ((l.drop at').take n) at') ∧ Src w' sb rb l (at' + n) br ∧ Kp w w' sb := by
  have HS := Lib.hid h
  have hln := h.len
  have HR : Hid (∀ w1, Below w.heap.size w w1 → Calls Tryz.prog 55 #[.pointer (some ⟨sb, 0, none⟩)] w1 fun e w' => e = .returned (.string (S (l.drop at'))) ∧ w' = w1.drew) := Lib.hid fun w1 hb => rest_any w1 sb rb l at' br (h.bel hb (Nat.le_refl _))
  have hlt := h.lt
  have hc2 : ∀ w1, Below w.heap.size w w1 → w1.cell? ⟨sb, 2, none⟩ = some (.int .i64 at') := fun w1 hb => (h.bel hb (Nat.le_refl _)).c2
  have HC2 := Lib.hid hc2
  clear h hc2
  have hld : (l.drop at').length = l.length - at' := List.length_drop
  have hsd := S_size (l.drop at')
  have HX : Hid ((S (l.drop at')).extract 0 n = S ((l.drop at').take n)) := Lib.hid (by rw [S_extract]; simp)
  rw [hld] at hsd
  generalize S (l.drop at') = sd at *
  generalize hm : l.length - at' = m at *
  have hn0 : (0 : Int) ≤ (n : Int) := by omega
  have hn1 : (n : Int) ≤ (m : Int) := by omega
  have hm8 : m ≤ 80000 := by omega
  clear hld
  go_enter Tryz.func56, Tryz.ntmps56
  go_wp2_with fail
  have hA := (Below.refl w.heap.size w).alloc (Nat.le_refl _) (.cells #[.int .i64 0, .string ⟨#[]⟩, .int .i64 0] 57)
  have d0 := HC2.out _ hA
  have HA := Lib.hid hA
  clear hA
  have hltA : sb < (w.alloc (.cells #[.int .i64 0, .string ⟨#[]⟩, .int .i64 0] 57)).heap.size := by simp; omega
  have hz : ∀ o, w.alloc (.cells #[.int .i64 0, .string ⟨#[]⟩, .int .i64 0] 57) = o → (o.cell? ⟨w.heap.size, 0, none⟩ = some (.int .i64 0) ∧ o.cell? ⟨w.heap.size, 1, none⟩ = some (.string ⟨#[]⟩) ∧ o.cell? ⟨w.heap.size, 2, none⟩ = some (.int .i64 0)) ∧ (o.frozen? ⟨w.heap.size, 0, none⟩ = false ∧ o.frozen? ⟨w.heap.size, 1, none⟩ = false ∧ o.frozen? ⟨w.heap.size, 2, none⟩ = false) ∧ ¬ w.heap.size = o.heap.size ∧ ¬ w.heap.size = sb ∧ ¬ sb = w.heap.size ∧ ¬ o.heap.size = sb ∧ w.heap.size < o.heap.size := by
    intro o ho
    subst ho
    refine ⟨⟨by simp [go_sem], by simp [go_sem], by simp [go_sem]⟩, ⟨by simp [go_sem], by simp [go_sem], by simp [go_sem]⟩, by simp, by omega, by omega, by simp; omega, by simp⟩
  have HZ := Lib.hid (hz _ rfl)
  clear hz
  generalize hwA : w.alloc (.cells #[.int .i64 0, .string ⟨#[]⟩, .int .i64 0] 57) = wA at *
  go_region_held3 (fun w' => w'.cell? ⟨sb, 2, none⟩ = some (.int .i64 at') ∧ Hid (Below wA.heap.size wA w')) (first | assumption | exact heldOf d0 hltA (Below.refl _ _).drew | exact heldOf d0 hltA (heldB (by assumption)).drew | exact heldOf d0 hltA ((heldB (by assumption)).alloc (Below.size (heldB (by assumption))) _) | exact heldOf d0 hltA ((Below.refl _ _).alloc (Nat.le_refl _) _).drew.drew | exact heldOf d0 hltA ((Below.refl _ _).drew.alloc (Nat.le_refl _) _).drew.drew | exact heldOf d0 hltA ((Below.refl _ _).alloc (Nat.le_refl _) _).drew | exact heldOf d0 hltA ((Below.refl _ _).drew.alloc (Nat.le_refl _) _).drew) ((go_at_call 55; refine (HR.out _ (by first | exact HA.out.drew | exact HA.out.trans ((heldB (by assumption)).mono HA.out.size))).mono ?_; rintro e w' ⟨rfl, rfl⟩))
  all_goals
    have HM := Lib.hid ((((HS.out.bel HA.out (Nat.le_refl _)).alloc (.cells #[.int .i64 k, .string (sd.extract 0 n), .int .i64 at'] 57)).drew.drew).moved (at' + n) hn)
    have hcm := (((HS.out.bel HA.out (Nat.le_refl _)).alloc (.cells #[.int .i64 k, .string (sd.extract 0 n), .int .i64 at'] 57)).drew.drew).c2
    have hfz := (((HS.out.bel HA.out (Nat.le_refl _)).alloc (.cells #[.int .i64 k, .string (sd.extract 0 n), .int .i64 at'] 57)).drew.drew).fz 2
    obtain ⟨⟨z0, z1, z2⟩, ⟨f0, f1, f2⟩, e1, e2, e3, e4, e5⟩ := HZ.out
    go_wp2_with fail
    have M := (HS.out.bel HA.out (Nat.le_refl _)).moved (at' + n) hn
    rw [Int.natCast_add] at M
    have k0 : (wA.setCell ⟨sb, 2, none⟩ (.int .i64 ((at' : Int) + n))).cell? ⟨w.heap.size, 0, none⟩ = some (.int .i64 0) := by rw [World.cell?_setCell_other _ _ _ _ (by simp)]; exact z0
    have k1 : (wA.setCell ⟨sb, 2, none⟩ (.int .i64 ((at' : Int) + n))).cell? ⟨w.heap.size, 1, none⟩ = some (.string ⟨#[]⟩) := by rw [World.cell?_setCell_other _ _ _ _ (by simp)]; exact z1
    have k2 : (wA.setCell ⟨sb, 2, none⟩ (.int .i64 ((at' : Int) + n))).cell? ⟨w.heap.size, 2, none⟩ = some (.int .i64 0) := by rw [World.cell?_setCell_other _ _ _ _ (by simp)]; exact z2
    have hlt3 : w.heap.size < (wA.setCell ⟨sb, 2, none⟩ (.int .i64 ((at' : Int) + n))).heap.size := by simpa using e5
    obtain ⟨q0, q1, q2⟩ := tok3_ret (.int .i64 k) (.string (sd.extract 0 n)) (.int .i64 at') (.cells #[.int .i64 k, .string (sd.extract 0 n), .int .i64 at'] 57) hlt3 k0 k1 k2
    have hrb := HS.out.rlt
    have HF : Src (((tok3 (wA.setCell ⟨sb, 2, none⟩ (.int .i64 ((at' : Int) + n))) w.heap.size (.int .i64 k) (.string (sd.extract 0 n)) (.int .i64 at')).alloc (.cells #[.int .i64 k, .string (sd.extract 0 n), .int .i64 at'] 57)).drew.drew) sb rb l (at' + n) br ∧ Kp w (((tok3 (wA.setCell ⟨sb, 2, none⟩ (.int .i64 ((at' : Int) + n))) w.heap.size (.int .i64 k) (.string (sd.extract 0 n)) (.int .i64 at')).alloc (.cells #[.int .i64 k, .string (sd.extract 0 n), .int .i64 at'] 57)).drew.drew) sb :=
      ⟨((tok3_src M.1 (by omega) (by omega) _ _ _).alloc _).drew.drew, ((tok3_kp ((Kp.ofBelow HA.out (Nat.le_refl _)).trans M.2) (Nat.le_refl _) _ _ _).alloc _).drew.drew⟩
    unfold tok3 at q0 q1 q2 HF
    unfold tokV
    rw [← HX.out]
    refine bodyPost_ret (v := .agg #[.int .i64 k, .string (sd.extract 0 n), .int .i64 at']) ?_ rfl ⟨rfl, HF⟩
    simp [results, Tryz.results56, go_sem, q0, q1, q2]
end Go.Proofs.YtdhdjfkknfbmhaaGreatDoor
