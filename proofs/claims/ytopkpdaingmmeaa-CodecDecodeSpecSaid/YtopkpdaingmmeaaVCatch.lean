/- Decode: the deferred closure, and the whole. -/
import Derived.Test.YtopkpdaingmmeaaVDecode
import Derived.Defers
import Derived.Recover
import Derived.Laws.Pointers
namespace Go.Proofs.Ytopkpdaingmmeaa
open Go.RowKit

theorem catch_panicking (bv be : Nat) (older : List PanicEntry) (w : World) (hz : ∃ c0 c1 c2 c3, w.cell? ⟨bv, 0, none⟩ = some c0 ∧ w.cell? ⟨bv, 1, none⟩ = some c1 ∧ w.cell? ⟨bv, 2, none⟩ = some c2 ∧ w.cell? ⟨bv, 3, none⟩ = some c3)
    (f0 : w.frozen? ⟨bv, 0, none⟩ = false) (f1 : w.frozen? ⟨bv, 1, none⟩ = false) (f2 : w.frozen? ⟨bv, 2, none⟩ = false) (f3 : w.frozen? ⟨bv, 3, none⟩ = false)
    (x : Int) (e0 : w.cell? ⟨be, 0, none⟩ = some (.int .i64 x)) (g0 : w.frozen? ⟨be, 0, none⟩ = false) (hne : bv ≠ be) :
    CallsD Try.prog 34 #[.pointer (some ⟨bv, 0, none⟩), .pointer (some ⟨be, 0, none⟩)] (.panicking ({ v := .iface 28 (.int .i64 20), recovered := false } :: older)) w fun e u' w' =>
      e = .returned (.tuple #[]) ∧ u' = .panicking ({ v := .iface 28 (.int .i64 20), recovered := true } :: older) ∧ w' = (set4 w bv (.int .i64 0) (.int .i64 0) (.string ⟨#[]⟩) (.slice none 0 0)).setCell ⟨be, 0, none⟩ (.int .i64 20) := by
  obtain ⟨c0, c1, c2, c3, h0, h1, h2, h3⟩ := hz
  refine callsD_of_wpS Try.func34 rfl fun c₀ cs hu => ?_
  apply wpS_seq
  apply wpS_region
  simp [wpOpsS, go_sem, recoverD, hu, Try.ntmps34, Exit.thenS]
  refine wpS_cond (t := true) (by simp [Act.eval, Array.replicate]) ?_
  simp only [if_true]
  have hb1 : (⟨be, 0, none⟩ : Addr) ≠ ⟨bv, 0, none⟩ := by first | (simp; done) | (simp; exact fun e => hne e.symm)
  refine wpS_of_wp ?_
  go_wp2_with fail
  cases c₀
  simp_all [bodyPostS, results, Try.results34]

theorem catch_idle (bv be : Nat) (w : World) :
    CallsD Try.prog 34 #[.pointer (some ⟨bv, 0, none⟩), .pointer (some ⟨be, 0, none⟩)] .returning w fun e u' w' => e = .returned (.tuple #[]) ∧ u' = .returning ∧ w' = w := by
  refine callsD_of_wpS Try.func34 rfl fun c₀ cs hu => ?_
  apply wpS_seq
  apply wpS_region
  simp [wpOpsS, go_sem, recoverD, hu, Try.ntmps34, Exit.thenS]
  refine wpS_cond (t := false) (by simp [Act.eval, Array.replicate]) ?_
  simp only [Bool.false_eq_true, if_false]
  refine wpS_of_wp (wp_skip ?_)
  cases c₀
  simp_all [bodyPostS, results, Try.results34]

theorem ZeroBox.set4 {w : World} {b : Nat} (hz : ZeroBox w b) (v0 v1 v2 v3 : Value) : (set4 w b v0 v1 v2 v3).frozen? ⟨b, 0, none⟩ = false ∧ (set4 w b v0 v1 v2 v3).frozen? ⟨b, 1, none⟩ = false ∧ (set4 w b v0 v1 v2 v3).frozen? ⟨b, 2, none⟩ = false ∧ (set4 w b v0 v1 v2 v3).frozen? ⟨b, 3, none⟩ = false := by
  refine ⟨?_, ?_, ?_, ?_⟩ <;> simp only [World.frozen?_setCell]
  · exact hz.z0
  · exact hz.z1
  · exact hz.z2
  · exact hz.z3
theorem set4_far (w : World) (b : Nat) (v0 v1 v2 v3 : Value) {a : Addr} (h : a.block ≠ b) : (set4 w b v0 v1 v2 v3).cell? a = w.cell? a := by
  have hh : (set4 w b v0 v1 v2 v3).heap[a.block]? = w.heap[a.block]? := by
    rw [heap_setCell_other _ _ _ _ h, heap_setCell_other _ _ _ _ h, heap_setCell_other _ _ _ _ h, heap_setCell_other _ _ _ _ h]
  exact World.cell?_of_block hh
theorem set4_below {B : Nat} {a w : World} (h : Below B a w) {b : Nat} (hb : B ≤ b) (v0 v1 v2 v3 : Value) : Below B a (set4 w b v0 v1 v2 v3) :=
  (((h.setCell (p := ⟨b, 0, none⟩) hb _).setCell (p := ⟨b, 1, none⟩) hb _).setCell (p := ⟨b, 2, none⟩) hb _).setCell (p := ⟨b, 3, none⟩) hb _
/-- Value and error are laid into their boxes. -/
theorem laid_two {w w2 : World} {b be : Nat} {e0 e : Value} {v0 v1 v2 v3 : Value} (hb : w.heap.size ≤ b) (hbe : w.heap.size ≤ be) (hne : b ≠ be) (h2 : Below w.heap.size w w2) (hz : ∃ c0 c1 c2 c3, w2.cell? ⟨b, 0, none⟩ = some c0 ∧ w2.cell? ⟨b, 1, none⟩ = some c1 ∧ w2.cell? ⟨b, 2, none⟩ = some c2 ∧ w2.cell? ⟨b, 3, none⟩ = some c3) (hE : w2.cell? ⟨be, 0, none⟩ = some e0) :
    ∃ wf, (set4 w2 b v0 v1 v2 v3).setCell ⟨be, 0, none⟩ e = wf ∧ wf.cell? ⟨b, 0, none⟩ = some v0 ∧ wf.cell? ⟨b, 1, none⟩ = some v1 ∧ wf.cell? ⟨b, 2, none⟩ = some v2 ∧ wf.cell? ⟨b, 3, none⟩ = some v3 ∧ wf.cell? ⟨be, 0, none⟩ = some e ∧ Below w.heap.size w wf := by
  obtain ⟨d0, d1, d2, d3, h0, h1, h3, h4⟩ := hz
  have hc : (set4 w2 b v0 v1 v2 v3).cell? ⟨b, 0, none⟩ = some v0 ∧ (set4 w2 b v0 v1 v2 v3).cell? ⟨b, 1, none⟩ = some v1 ∧ (set4 w2 b v0 v1 v2 v3).cell? ⟨b, 2, none⟩ = some v2 ∧ (set4 w2 b v0 v1 v2 v3).cell? ⟨b, 3, none⟩ = some v3 := by
    have n01 : (⟨b, 0, none⟩ : Addr) ≠ ⟨b, 1, none⟩ := by simp
    have n02 : (⟨b, 0, none⟩ : Addr) ≠ ⟨b, 2, none⟩ := by simp
    have n03 : (⟨b, 0, none⟩ : Addr) ≠ ⟨b, 3, none⟩ := by simp
    have n12 : (⟨b, 1, none⟩ : Addr) ≠ ⟨b, 2, none⟩ := by simp
    have n13 : (⟨b, 1, none⟩ : Addr) ≠ ⟨b, 3, none⟩ := by simp
    have n23 : (⟨b, 2, none⟩ : Addr) ≠ ⟨b, 3, none⟩ := by simp
    refine ⟨?_, ?_, ?_, ?_⟩
    · rw [World.cell?_setCell_other _ _ _ _ n03.symm, World.cell?_setCell_other _ _ _ _ n02.symm, World.cell?_setCell_other _ _ _ _ n01.symm]
      exact World.cell?_setCell_same _ _ _ h0
    · rw [World.cell?_setCell_other _ _ _ _ n13.symm, World.cell?_setCell_other _ _ _ _ n12.symm]
      exact World.cell?_setCell_same _ _ _ ((World.cell?_setCell_other _ _ _ _ n01).trans h1)
    · rw [World.cell?_setCell_other _ _ _ _ n23.symm]
      exact World.cell?_setCell_same _ _ _ ((World.cell?_setCell_other _ _ _ _ n12).trans ((World.cell?_setCell_other _ _ _ _ n02).trans h3))
    · exact World.cell?_setCell_same _ _ _ ((World.cell?_setCell_other _ _ _ _ n23).trans ((World.cell?_setCell_other _ _ _ _ n13).trans ((World.cell?_setCell_other _ _ _ _ n03).trans h4)))
  obtain ⟨c0, c1, c2, c3⟩ := hc
  have far := fun o => World.cell?_setCell_far (set4 w2 b v0 v1 v2 v3) ⟨be, 0, none⟩ ⟨b, o, none⟩ e (fun h => hne h.symm)
  exact ⟨_, rfl, (far 0).trans c0, (far 1).trans c1, (far 2).trans c2, (far 3).trans c3, World.cell?_setCell_same _ _ _ ((set4_far _ _ _ _ _ _ (a := ⟨be, 0, none⟩) (fun h => hne h.symm)).trans hE), (set4_below h2 hb _ _ _ _).setCell (p := ⟨be, 0, none⟩) hbe _⟩

/-- What Decode says of the bytes. -/
def decV (bs : List UInt8) : V := match rdV 16 bs with
  | some (v, []) => v
  | _ => .mk 0 0 ⟨#[]⟩ []
def decE (bs : List UInt8) : Int := match rdV 16 bs with
  | some (_, []) => 0
  | _ => 20

set_option maxHeartbeats 1000000 in
theorem decode_any (bs : List UInt8) (hlen : bs.length ≤ 1000000000000) (w : World) (B : Nat) (p : Option Addr) (cap : Nat) (hp : BAt w B p bs) (hc : bs.length ≤ cap) :
    Calls Try.prog 18 #[.slice p bs.length cap] w fun e w' => Below w.heap.size w w' ∧ ∃ q c, e = .returned (.tuple #[vV (decV bs) q c, .int .i64 (decE bs)]) ∧ VIn w' (w.heap.size ≤ ·) (decV bs) q c := by
  have hmf : ∀ (fn : Fn) (first cap : Array Value) (w : World), (Instr.makeFunc fn first cap).run Try.prog w = .ok (.func fn first cap) w := fun _ _ _ _ => rfl
  go_enter_defers Try.func18, Try.ntmps18
  go_wp2_with fail
  go_at_call 35
  have hB : Below w.heap.size w (((w.alloc (.cells #[.int .i64 0, .int .i64 0, .string ⟨#[]⟩, .slice none 0 0] 24)).alloc (.cells #[.int .i64 0] 28)).alloc (.cells #[.slice p bs.length bs.length] 56)) :=
    (((Below.refl w.heap.size w).alloc (Nat.le_refl _) _).alloc (by simp) _).alloc (by simp only [World.size_alloc]; omega) _
  have hI : Inp (((w.alloc (.cells #[.int .i64 0, .int .i64 0, .string ⟨#[]⟩, .slice none 0 0] 24)).alloc (.cells #[.int .i64 0] 28)).alloc (.cells #[.slice p bs.length bs.length] 56)) w.heap.size (w.heap.size + 1 + 1) bs := by
    refine ⟨Nat.le_add_right _ 2, by simp, by simp [go_sem], hlen, p, by simp [go_sem], fun hne => ?_⟩
    obtain ⟨b, off, e1, _, e2, e3⟩ := hp.at' hne
    exact ⟨b, off, e1, e2, fun i hi => (hB.cell (p := ⟨b, off + i, none⟩) e2).trans (e3 i hi)⟩
  have hZ : ZeroBox (((w.alloc (.cells #[.int .i64 0, .int .i64 0, .string ⟨#[]⟩, .slice none 0 0] 24)).alloc (.cells #[.int .i64 0] 28)).alloc (.cells #[.slice p bs.length bs.length] 56)) w.heap.size := by
    constructor <;> simp [go_sem]
  have hE : (((w.alloc (.cells #[.int .i64 0, .int .i64 0, .string ⟨#[]⟩, .slice none 0 0] 24)).alloc (.cells #[.int .i64 0] 28)).alloc (.cells #[.slice p bs.length bs.length] 56)).cell? ⟨w.heap.size + 1, 0, none⟩ = some (.int .i64 0) := by simp [go_sem]
  have hF : (((w.alloc (.cells #[.int .i64 0, .int .i64 0, .string ⟨#[]⟩, .slice none 0 0] 24)).alloc (.cells #[.int .i64 0] 28)).alloc (.cells #[.slice p bs.length bs.length] 56)).frozen? ⟨w.heap.size + 1, 0, none⟩ = false := by simp [go_sem]
  have hS : (((w.alloc (.cells #[.int .i64 0, .int .i64 0, .string ⟨#[]⟩, .slice none 0 0] 24)).alloc (.cells #[.int .i64 0] 28)).alloc (.cells #[.slice p bs.length bs.length] 56)).heap.size = w.heap.size + 3 := by simp
  generalize ((w.alloc (.cells #[.int .i64 0, .int .i64 0, .string ⟨#[]⟩, .slice none 0 0] 24)).alloc (.cells #[.int .i64 0] 28)).alloc (.cells #[.slice p bs.length bs.length] 56) = W1 at *
  refine (read_any 16 (by omega) bs W1 w.heap.size (w.heap.size + 1 + 1) hI).mono ?_
  rintro e w2 ⟨hk, he⟩
  have hbk := fun j (h : j < w.heap.size + 1 + 1) => hk.block j (by omega) (by omega) (by simp)
  have hz := hZ.kept hk (by omega) (by omega)
  have hE2 := (World.cell?_of_block (a := ⟨w.heap.size + 1, 0, none⟩) (hbk _ (by dsimp only; omega))).trans hE
  have hF2 := (World.frozen?_of_block (a := ⟨w.heap.size + 1, 0, none⟩) (hbk _ (by dsimp only; omega))).trans hF
  have hB2 : Below w.heap.size w w2 := hB.trans (hk.below (by omega) (fun k e => by cases e) (by omega))
  have HZ := Lib.hid hz
  have HB2 := Lib.hid hB2
  have HDV : Hid (decV bs = match rdV 16 bs with | some (v, []) => v | _ => .mk 0 0 ⟨#[]⟩ []) := Lib.hid rfl
  have HDE : Hid (decE bs = match rdV 16 bs with | some (_, []) => 0 | _ => 20) := Lib.hid rfl
  have hsz := hk.size
  clear hbk hk hZ hE hF hB hI hz hB2
  generalize rdV 16 bs = o at *
  cases o with
  | none =>
    change e = .panicked noCode at he
    subst he
    have HDV2 : Hid (decV bs = .mk 0 0 ⟨#[]⟩ []) := HDV
    have HDE2 : Hid (decE bs = 20) := HDE
    unfold noCode
    go_wp2_with fail
    refine leaves_cons (f := 34) (args := #[.pointer (some ⟨w.heap.size, 0, none⟩), .pointer (some ⟨w.heap.size + 1, 0, none⟩)]) (by simp) (by simp [go_sem]) ?_
    have hz := HZ.out
    refine (catch_panicking w.heap.size (w.heap.size + 1) [] w2 ⟨_, _, _, _, hz.d0, hz.d1, hz.d2, hz.d3⟩ hz.z0 hz.z1 hz.z2 hz.z3 0 hE2 hF2 (by omega)).mono ?_
    rintro e u' w'' ⟨rfl, rfl, rfl⟩
    obtain ⟨wf, hwf, f0, f1, f2, f3, fe, fb⟩ := laid_two (b := w.heap.size) (be := w.heap.size + 1) (e := .int .i64 20) (v0 := .int .i64 0) (v1 := .int .i64 0) (v2 := .string ⟨#[]⟩) (v3 := .slice none 0 0) (Nat.le_refl _) (Nat.le_succ _) (by omega) HB2.out ⟨_, _, _, _, hz.d0, hz.d1, hz.d2, hz.d3⟩ hE2
    rw [hwf]
    simp [Leaves, settle, results, Try.results18, go_sem, f0, f1, f2, f3, fe]
    exact ⟨fb, none, 0, ⟨by rw [HDV2.out]; rfl, HDE2.out.symm⟩, by rw [HDV2.out]; exact VIn.leaf ⟨by decide, by decide⟩ ⟨by decide, by decide⟩ (by decide)⟩
  | some vr =>
    obtain ⟨v, r⟩ := vr
    obtain ⟨p', cap', rfl, hv, hi⟩ := he
    obtain ⟨z0, z1, z2, z3⟩ := (show w2.frozen? ⟨w.heap.size, 0, none⟩ = false ∧ w2.frozen? ⟨w.heap.size, 1, none⟩ = false ∧ w2.frozen? ⟨w.heap.size, 2, none⟩ = false ∧ w2.frozen? ⟨w.heap.size, 3, none⟩ = false from ⟨HZ.out.z0, HZ.out.z1, HZ.out.z2, HZ.out.z3⟩)
    obtain ⟨d0, d1, d2, d3⟩ := (show w2.cell? ⟨w.heap.size, 0, none⟩ = some (.int .i64 0) ∧ w2.cell? ⟨w.heap.size, 1, none⟩ = some (.int .i64 0) ∧ w2.cell? ⟨w.heap.size, 2, none⟩ = some (.string ⟨#[]⟩) ∧ w2.cell? ⟨w.heap.size, 3, none⟩ = some (.slice none 0 0) from ⟨HZ.out.d0, HZ.out.d1, HZ.out.d2, HZ.out.d3⟩)
    obtain ⟨q, hcell, _⟩ := hi.cell
    have HV := Lib.hid hv
    clear hi hv
    unfold vV
    cases r with
    | nil =>
      have HDV2 : Hid (decV bs = v) := HDV
      have HDE2 : Hid (decE bs = 0) := HDE
      change w2.cell? ⟨w.heap.size + 1 + 1, 0, none⟩ = some (.slice q 0 0) at hcell
      obtain ⟨c0, c1, c2, c3⟩ := set4_cells HZ.out (.int .i64 v.k) (.int .i64 v.n) (.string v.s) (.slice p' v.l.length cap')
      obtain ⟨wf, hwf, f0, f1, f2, f3, fe, fb⟩ := laid_two (b := w.heap.size) (be := w.heap.size + 1) (e := .int .i64 0) (v0 := .int .i64 v.k) (v1 := .int .i64 v.n) (v2 := .string v.s) (v3 := .slice p' v.l.length cap') (Nat.le_refl _) (Nat.le_succ _) (by omega)
        (set4_below HB2.out (Nat.le_refl _) (.int .i64 v.k) (.int .i64 v.n) (.string v.s) (.slice p' v.l.length cap')) ⟨_, _, _, _, c0, c1, c2, c3⟩ ((set4_far _ _ _ _ _ _ (a := ⟨w.heap.size + 1, 0, none⟩) (by simp)).trans hE2)
      have hb0 : ¬ W1.heap.size ≤ w.heap.size := by omega
      have hb1 : ¬ W1.heap.size ≤ w.heap.size + 1 := by omega
      have hvf : VIn wf (w.heap.size ≤ ·) v p' cap' := by
        rw [← hwf]
        exact (((((((((HV.out.set hb0 0 _).set hb0 1 _).set hb0 2 _).set hb0 3 _).set hb0 0 _).set hb0 1 _).set hb0 2 _).set hb0 3 _).set hb1 0 _).keep (Nat.le_refl _) fun b hb _ => ⟨by omega, rfl⟩
      unfold set4 at hwf
      have HWF := Lib.hid hwf
      have HFS := Lib.hid (And.intro f0 (And.intro f1 (And.intro f2 (And.intro f3 (And.intro fe (And.intro fb hvf))))))
      clear c0 c1 c2 c3 hwf f0 f1 f2 f3 fe fb hvf
      go_wp2_with fail
      rw [HWF.out]
      refine leaves_cons (f := 34) (args := #[.pointer (some ⟨w.heap.size, 0, none⟩), .pointer (some ⟨w.heap.size + 1, 0, none⟩)]) (by simp) (by simp [go_sem]) ?_
      refine (catch_idle w.heap.size (w.heap.size + 1) wf).mono ?_
      rintro e u' w'' ⟨rfl, rfl, rfl⟩
      obtain ⟨f0, f1, f2, f3, fe, fb, hvf⟩ := HFS.out
      simp [Leaves, settle, results, Try.results18, go_sem, f0, f1, f2, f3, fe]
      exact ⟨fb, p', cap', ⟨by rw [HDV2.out]; rfl, HDE2.out.symm⟩, by rw [HDV2.out]; exact hvf⟩
    | cons c r =>
      have HDV2 : Hid (decV bs = .mk 0 0 ⟨#[]⟩ []) := HDV
      have HDE2 : Hid (decE bs = 20) := HDE
      have hr0 : 0 < (c :: r).length := by simp
      generalize (c :: r).length = rl at *
      obtain ⟨c0, c1, c2, c3⟩ := set4_cells HZ.out (.int .i64 v.k) (.int .i64 v.n) (.string v.s) (.slice p' v.l.length cap')
      obtain ⟨x0, x1, x2, x3⟩ := HZ.out.set4 (.int .i64 v.k) (.int .i64 v.n) (.string v.s) (.slice p' v.l.length cap')
      have hE3 := (set4_far w2 w.heap.size (.int .i64 v.k) (.int .i64 v.n) (.string v.s) (.slice p' v.l.length cap') (a := ⟨w.heap.size + 1, 0, none⟩) (by simp)).trans hE2
      have hF3 : (set4 w2 w.heap.size (.int .i64 v.k) (.int .i64 v.n) (.string v.s) (.slice p' v.l.length cap')).frozen? ⟨w.heap.size + 1, 0, none⟩ = false := by
        simp only [World.frozen?_setCell]; exact hF2
      have HCP := Lib.hid (catch_panicking w.heap.size (w.heap.size + 1) [] _ ⟨_, _, _, _, c0, c1, c2, c3⟩ x0 x1 x2 x3 0 hE3 hF3 (by omega))
      obtain ⟨wf, hwf, f0, f1, f2, f3, fe, fb⟩ := laid_two (b := w.heap.size) (be := w.heap.size + 1) (e := .int .i64 20) (v0 := .int .i64 0) (v1 := .int .i64 0) (v2 := .string ⟨#[]⟩) (v3 := .slice none 0 0) (Nat.le_refl _) (Nat.le_succ _) (by omega)
        (set4_below HB2.out (Nat.le_refl _) (.int .i64 v.k) (.int .i64 v.n) (.string v.s) (.slice p' v.l.length cap')) ⟨_, _, _, _, c0, c1, c2, c3⟩ hE3
      have HWF := Lib.hid hwf
      have HFS := Lib.hid (And.intro f0 (And.intro f1 (And.intro f2 (And.intro f3 (And.intro fe fb)))))
      clear c0 c1 c2 c3 x0 x1 x2 x3 hE3 hF3 hwf f0 f1 f2 f3 fe fb
      go_wp2_with fail
      refine leaves_cons (f := 34) (args := #[.pointer (some ⟨w.heap.size, 0, none⟩), .pointer (some ⟨w.heap.size + 1, 0, none⟩)]) (by simp) (by simp [go_sem]) ?_
      refine HCP.out.mono ?_
      rintro e u' w'' ⟨rfl, rfl, rfl⟩
      rw [HWF.out]
      obtain ⟨f0, f1, f2, f3, fe, fb⟩ := HFS.out
      simp [Leaves, settle, results, Try.results18, go_sem, f0, f1, f2, f3, fe]
      exact ⟨fb, none, 0, ⟨by rw [HDV2.out]; rfl, HDE2.out.symm⟩, by rw [HDV2.out]; exact VIn.leaf ⟨by decide, by decide⟩ ⟨by decide, by decide⟩ (by decide)⟩
end Go.Proofs.Ytopkpdaingmmeaa
