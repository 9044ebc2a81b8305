/- The parser in memory; next, take. -/
import Derived.Test.YtdhdjfkknfbmhaaGreatDoorKTok
import Derived.Test.YtdhdjfkknfbmhaaGreatDoorSMath
namespace Go.Proofs.YtdhdjfkknfbmhaaGreatDoor
open Go.RowKit

/-- The parser lies in block pb; its tokens L in block tb from off on; it has come to the i-th; M: its three maps. -/
structure Psr (w : World) (pb tb off cap : Nat) (M : Nat → Value) (L : List Tk) (i : Nat) : Prop where
  lt : pb < w.heap.size
  h9 : 12 ≤ pb
  ne : tb ≠ pb
  tlt : tb < w.heap.size
  il : i < L.length
  lc : L.length ≤ cap
  cc : cap ≤ 9223372036854775807
  ll : L.length ≤ 100000
  fz : ∀ o, w.frozen? ⟨pb, o, none⟩ = false
  c0 : w.cell? ⟨pb, 0, none⟩ = some (.slice (some ⟨tb, off + i * 3, none⟩) (L.length - i) (cap - i))
  cm : ∀ o, o < 3 → w.cell? ⟨pb, o + 1, none⟩ = some (M o)
  tk : ∀ j (h : j < L.length), w.cell? ⟨tb, off + j * 3, none⟩ = some (.int .i64 L[j].k) ∧ w.cell? ⟨tb, off + j * 3 + 1, none⟩ = some (.string (S L[j].t)) ∧ w.cell? ⟨tb, off + j * 3 + 2, none⟩ = some (.int .i64 L[j].a)
  fin : ∀ j (h : j < L.length), L[j].k = 6 ↔ j + 1 = L.length
  tl : ∀ x ∈ L, x.t.length ≤ 100000
theorem Psr.same {w w' : World} {pb tb off cap : Nat} {M : Nat → Value} {L : List Tk} {i : Nat} (h : Psr w pb tb off cap M L i) (hs : w.heap.size ≤ w'.heap.size) (h1 : w'.heap[pb]? = w.heap[pb]?) (h2 : w'.heap[tb]? = w.heap[tb]?) : Psr w' pb tb off cap M L i := by
  have hc := fun o => World.cell?_of_block (a := ⟨pb, o, none⟩) h1
  have ht := fun o => World.cell?_of_block (a := ⟨tb, o, none⟩) h2
  exact ⟨Nat.lt_of_lt_of_le h.lt hs, h.h9, h.ne, Nat.lt_of_lt_of_le h.tlt hs, h.il, h.lc, h.cc, h.ll, fun o => (World.frozen?_of_block (a := ⟨pb, o, none⟩) h1).trans (h.fz o), (hc 0).trans h.c0, fun o ho => (hc _).trans (h.cm o ho),
    fun j hj => ⟨(ht _).trans (h.tk j hj).1, (ht _).trans (h.tk j hj).2.1, (ht _).trans (h.tk j hj).2.2⟩, h.fin, h.tl⟩
theorem Psr.bel {w w' : World} {pb tb off cap m : Nat} {M : Nat → Value} {L : List Tk} {i : Nat} (h : Psr w pb tb off cap M L i) (hb : Below m w w') (hm : w.heap.size ≤ m) : Psr w' pb tb off cap M L i :=
  h.same hb.size (hb.block pb (by have := h.lt; omega)) (hb.block tb (by have := h.tlt; omega))
/-- The parser moves on. -/
theorem Psr.step {w : World} {pb tb off cap : Nat} {M : Nat → Value} {L : List Tk} {i : Nat} (h : Psr w pb tb off cap M L i) (hi : i + 1 < L.length) :
    Psr (w.setCell ⟨pb, 0, none⟩ (.slice (some ⟨tb, off + (i + 1) * 3, none⟩) (L.length - (i + 1)) (cap - (i + 1)))) pb tb off cap M L (i + 1) ∧
    Kp w (w.setCell ⟨pb, 0, none⟩ (.slice (some ⟨tb, off + (i + 1) * 3, none⟩) (L.length - (i + 1)) (cap - (i + 1)))) pb := by
  have ht := fun o => World.cell?_of_block (w := w) (w' := w.setCell ⟨pb, 0, none⟩ (.slice (some ⟨tb, off + (i + 1) * 3, none⟩) (L.length - (i + 1)) (cap - (i + 1)))) (a := ⟨tb, o, none⟩) (heap_setCell_other _ _ _ _ h.ne)
  refine ⟨⟨by simpa using h.lt, h.h9, h.ne, by simpa using h.tlt, hi, h.lc, h.cc, h.ll, fun o => by simpa using h.fz o, World.cell?_setCell_same _ _ _ h.c0, fun o ho => ?_, fun j hj => ⟨(ht _).trans (h.tk j hj).1, (ht _).trans (h.tk j hj).2.1, (ht _).trans (h.tk j hj).2.2⟩, h.fin, h.tl⟩, rfl, rfl, rfl, by simp, fun k hk hne => heap_setCell_other _ _ _ _ hne⟩
  rw [World.cell?_setCell_other _ _ _ _ (by simp)]; exact h.cm o ho

theorem Psr.head {w : World} {pb tb off cap : Nat} {M : Nat → Value} {L : List Tk} {i : Nat} (h : Psr w pb tb off cap M L i) {t : Tk} {r : List Tk} (hr : L.drop i = t :: r) :
    (w.cell? ⟨tb, off + i * 3, none⟩ = some (.int .i64 t.k) ∧ w.cell? ⟨tb, off + i * 3 + 1, none⟩ = some (.string (S t.t)) ∧ w.cell? ⟨tb, off + i * 3 + 2, none⟩ = some (.int .i64 t.a)) ∧ L.drop (i + 1) = r ∧ (t.k = 6 ↔ r = []) ∧ t.t.length ≤ 100000 := by
  have hc := (List.getElem_cons_drop h.il).symm.trans rfl
  rw [hr] at hc
  obtain ⟨h1, h2⟩ := List.cons.inj hc
  have := h.tk i h.il
  have hf := h.fin i h.il
  have hl := h.tl _ (List.getElem_mem h.il)
  rw [← h1] at this hf hl
  refine ⟨this, h2.symm, hf.trans ?_, hl⟩
  have hlen := congrArg List.length hr
  rw [List.length_drop, List.length_cons] at hlen
  constructor
  · intro h3
    exact List.eq_nil_of_length_eq_zero (by omega)
  · intro h3
    rw [h3, List.length_nil] at hlen
    omega

set_option maxHeartbeats 2000000 in
set_option maxRecDepth 100000 in
theorem pnext_any (w : World) (pb tb off cap : Nat) (M : Nat → Value) (L : List Tk) (i : Nat) (h : Psr w pb tb off cap M L i) (t : Tk) (r : List Tk) (hr : L.drop i = t :: r) :
    Calls Tryz.prog 119 #[.pointer (some ⟨pb, 0, none⟩)] w fun e w' => e = .returned (tokV t.k t.t t.a) ∧ Below w.heap.size w w' := by
  have HA := Lib.hid (h.bel ((Below.refl w.heap.size w).alloc (Nat.le_refl _) (.cells #[.int .i64 0, .string ⟨#[]⟩, .int .i64 0] 57)) (Nat.le_refl _))
  obtain ⟨⟨a0, a1, a2⟩, -⟩ := HA.out.head hr
  have c0 := HA.out.c0
  have hil := h.il
  have hlc := h.lc
  have hcc := h.cc
  have hlt := h.lt
  have htl := h.tlt
  have hll := h.ll
  clear h hr
  have g1 : (0 : Int) < ((L.length - i : Nat) : Int) := by omega
  have hcut : 0 < L.length - i := by omega
  generalize L.length - i = n at *
  go_enter Tryz.func119, Tryz.ntmps119
  go_wp2_with fail
  refine bodyPost_ret (v := tokV t.k t.t t.a) ?_ rfl ⟨rfl, (Below.refl w.heap.size w).alloc (Nat.le_refl _) _⟩
  simp [results, Tryz.results119, go_sem, tokV]

theorem tok_field (a c : Int) (b : ByteArray) : (∀ w, (Instr.field 57 (.agg #[.int .i64 a, .string b, .int .i64 c]) 0).run Tryz.prog w = .ok (.int .i64 a) w) ∧ (∀ w, (Instr.field 57 (.agg #[.int .i64 a, .string b, .int .i64 c]) 1).run Tryz.prog w = .ok (.string b) w) ∧ (∀ w, (Instr.field 57 (.agg #[.int .i64 a, .string b, .int .i64 c]) 2).run Tryz.prog w = .ok (.int .i64 c) w) :=
  ⟨fun _ => by kernel_rfl, fun _ => by kernel_rfl, fun _ => by kernel_rfl⟩

set_option maxHeartbeats 2000000 in
set_option maxRecDepth 100000 in
theorem ptake_any (w : World) (pb tb off cap : Nat) (M : Nat → Value) (L : List Tk) (i : Nat) (h : Psr w pb tb off cap M L i) (t : Tk) (r : List Tk) (hr : L.drop i = t :: r) (hne : r ≠ []) :
    Calls Tryz.prog 120 #[.pointer (some ⟨pb, 0, none⟩)] w fun e w' => e = .returned (.string (S t.t)) ∧ Psr w' pb tb off cap M L (i + 1) ∧ Kp w w' pb := by
  have HN := Lib.hid (pnext_any w pb tb off cap M L i h t r hr)
  have hlr := congrArg List.length hr
  rw [List.length_drop, List.length_cons] at hlr
  have hrl : 0 < r.length := List.length_pos_iff.2 hne
  have HB : Hid (∀ w1, Below w.heap.size w w1 → w1.cell? ⟨pb, 0, none⟩ = some (.slice (some ⟨tb, off + i * 3, none⟩) (L.length - i) (cap - i)) ∧ w1.frozen? ⟨pb, 0, none⟩ = false) := Lib.hid fun w1 hb => by
    have := h.bel hb (Nat.le_refl _)
    exact ⟨this.c0, this.fz 0⟩
  have HP : Hid (∀ w1, Below w.heap.size w w1 → Psr (w1.setCell ⟨pb, 0, none⟩ (.slice (some ⟨tb, off + i * 3 + 3, none⟩) (L.length - i - 1) (cap - i - 1))) pb tb off cap M L (i + 1) ∧ Kp w (w1.setCell ⟨pb, 0, none⟩ (.slice (some ⟨tb, off + i * 3 + 3, none⟩) (L.length - i - 1) (cap - i - 1))) pb) := Lib.hid fun w1 hb => by
    have := (h.bel hb (Nat.le_refl _)).step (by omega)
    rw [show off + (i + 1) * 3 = off + i * 3 + 3 by omega, show L.length - (i + 1) = L.length - i - 1 by omega, show cap - (i + 1) = cap - i - 1 by omega] at this
    exact ⟨this.1, (Kp.ofBelow hb (Nat.le_refl _)).trans this.2⟩
  have hlc := h.lc
  have hcc := h.cc
  have hll := h.ll
  clear h hr hne
  have hn1 : 1 ≤ L.length - i := by omega
  have hn2 : L.length - i ≤ cap - i := by omega
  have hn3 : ¬ cap - i = 1 := by omega
  have hn4 : cap - i ≤ 9223372036854775807 := by omega
  generalize L.length - i = n at *
  generalize cap - i = c at *
  go_enter Tryz.func120, Tryz.ntmps120
  go_wp2_with fail
  go_at_call 119
  refine HN.out.mono ?_
  rintro e w1 ⟨rfl, hb⟩
  obtain ⟨c0, f0⟩ := HB.out w1 hb
  have HP1 := Lib.hid (HP.out w1 hb)
  clear hb HP HB HN
  unfold tokV
  have hfd := (tok_field t.k t.a (S t.t)).2.1
  go_wp2_with fail
  go_ret
  have HP2 := HP1.out
  rw [hlr, Nat.add_sub_cancel] at HP2
  exact ⟨rfl, HP2⟩
end Go.Proofs.YtdhdjfkknfbmhaaGreatDoor
