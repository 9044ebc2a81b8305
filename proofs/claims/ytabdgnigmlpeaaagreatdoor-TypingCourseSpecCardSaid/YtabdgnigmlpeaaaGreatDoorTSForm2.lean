/- stepForm. -/
import Derived.Test.YtabdgnigmlpeaaaGreatDoorTSForm
import Derived.Deep.RegionHeld3
namespace Go.Proofs.YtabdgnigmlpeaaaGreatDoor
open Go.RowKit

theorem formS_crit (b : Int) (c : Cd) (h : noB c = true) : formS (.mk 1 b c [] []) = .crit b := by rw [formS]; simp [h]
theorem formS_bran (c : Cd) (th el : List St) : formS (.mk 2 0 c th el) = .bran (formC c) (th.map formS) (el.map formS) := by rw [formS, formSs_eq, formSs_eq]; simp
theorem formS_mis (k b : Int) (c : Cd) (th el : List St) (h1 : ¬(k = 1 ∧ noB c = true ∧ th = [] ∧ el = [])) (h2 : ¬(k = 2 ∧ b = 0)) : formS (.mk k b c th el) = .mis := by
  rw [formS, if_neg h1, if_neg h2]
theorem held6 {W w' : World} {A B C D E F : Prop} (h : A ∧ B ∧ C ∧ D ∧ E ∧ F ∧ Hid (Below W.heap.size W w')) : Below W.heap.size W w' := h.2.2.2.2.2.2.out
/-- The forms of the steps of a list, whatever was made meanwhile. -/
def FormsAt (W : World) (l : List St) (p : Option Addr) (cap : Nat) : Prop :=
  ∀ W', Below W.heap.size W W' → Calls Tryz.prog 109 #[.slice p l.length cap, .func (Fn.func 110) #[] #[]] W' fun e w' => ∃ q k, e = .returned (.slice q l.length k) ∧ FsIn w' (W'.heap.size ≤ ·) (l.map formS) q k ∧ Below W'.heap.size W' w'

theorem bran_in {n0 : Nat} {W2 Wd w1 w2 w3 : World} {f : Fm} {l1 l2 : List Fm} {t1 : TypeId} {v1 : Value} {q2 q3 : Option Addr} {k2 k3 n1 n2 : Nat} (hn : n0 ≤ W2.heap.size)
    (hf1 : FmIn w1 (fun x => Wd.heap.size ≤ x) f (.iface t1 v1)) (hs2 : Below w1.heap.size w1 w2) (hs3 : Below w2.heap.size w2 w3) (hf2 : FsIn w2 (fun x => w1.heap.size ≤ x) l1 q2 k2) (hf3 : FsIn w3 (fun x => w2.heap.size ≤ x) l2 q3 k3)
    (h1 : l1.length = n1) (h2 : l2.length = n2) (hd : Below W2.heap.size W2 Wd) (hs1 : Below Wd.heap.size Wd w1) :
    FmIn w3 (fun x => n0 ≤ x) (.bran f l1 l2) (.iface 169 (.agg #[.iface t1 v1, .slice q2 n1 k2, .slice q3 n2 k3])) := by
  subst h1 h2
  have a1 : n0 ≤ Wd.heap.size := Nat.le_trans hn hd.size
  have a2 : n0 ≤ w1.heap.size := Nat.le_trans a1 hs1.size
  have a3 : n0 ≤ w2.heap.size := Nat.le_trans a2 hs2.size
  obtain ⟨b2, o2, hL2, hA2⟩ := (hf2.bel hs3).keep2 (Q' := fun x => n0 ≤ x) (Nat.le_refl _) fun b hb _ => ⟨Nat.le_trans a2 hb, rfl⟩
  obtain ⟨b3, o3, hL3, hA3⟩ := hf3.keep2 (Q' := fun x => n0 ≤ x) (Nat.le_refl _) fun b hb _ => ⟨Nat.le_trans a3 hb, rfl⟩
  rw [FmIn]
  exact ⟨_, q2, k2, b2, o2, q3, k3, b3, o3, rfl, ((hf1.bel hs2).bel hs3).mono fun b hb => Nat.le_trans a1 hb, ⟨hL2, hA2⟩, hL3, hA3⟩
set_option maxHeartbeats 8000000 in
set_option maxRecDepth 100000 in
theorem sform_bran (c : Cd) (th el : List St) (x : Loc) (W : World) (Q : Nat → Prop) (hc : CdIn W Q c x.pc x.cc) (h1 : FormsAt W th x.pt x.ct) (h2 : FormsAt W el x.pe x.ce) :
    Calls Tryz.prog 110 #[sV (.mk 2 0 c th el) x] W fun e w' => ∃ t v, e = .returned (.iface t v) ∧ FmIn w' (W.heap.size ≤ ·) (.bran (formC c) (th.map formS) (el.map formS)) (.iface t v) ∧ Below W.heap.size W w' := by
  have hA := (Below.refl W.heap.size W).alloc (Nat.le_refl _) (.cells #[.int .i64 2, .int .i64 0, .int .i64 c.k, .int .i64 c.v, .int .i64 c.n, .slice x.pc c.ps.length x.cc, .slice x.pt th.length x.ct, .slice x.pe el.length x.ce] 84)
  have HA := Lib.hid hA
  have HX : Hid (∀ W2, W.alloc (.cells #[.int .i64 2, .int .i64 0, .int .i64 c.k, .int .i64 c.v, .int .i64 c.n, .slice x.pc c.ps.length x.cc, .slice x.pt th.length x.ct, .slice x.pe el.length x.ce] 84) = W2 → ∀ w', Below W2.heap.size W2 w' →
      w'.cell? ⟨W.heap.size, 2, none⟩ = some (.int .i64 c.k) ∧ w'.cell? ⟨W.heap.size, 3, none⟩ = some (.int .i64 c.v) ∧ w'.cell? ⟨W.heap.size, 4, none⟩ = some (.int .i64 c.n) ∧ w'.cell? ⟨W.heap.size, 5, none⟩ = some (.slice x.pc c.ps.length x.cc) ∧ w'.cell? ⟨W.heap.size, 6, none⟩ = some (.slice x.pt th.length x.ct) ∧ w'.cell? ⟨W.heap.size, 7, none⟩ = some (.slice x.pe el.length x.ce) ∧ Hid (Below W2.heap.size W2 w')) := Lib.hid fun W2 e w' hb => by
    subst e
    exact ⟨keepc hb (by simp [go_sem]), keepc hb (by simp [go_sem]), keepc hb (by simp [go_sem]), keepc hb (by simp [go_sem]), keepc hb (by simp [go_sem]), keepc hb (by simp [go_sem]), Lib.hid hb⟩
  have H1 : Hid (∀ W2, Below W.heap.size W W2 → ∀ w1, Below W2.heap.size W2 w1 → Calls Tryz.prog 105 #[.agg #[.int .i64 c.k, .int .i64 c.v, .int .i64 c.n, .slice x.pc c.ps.length x.cc]] w1 fun e w' => ∃ t v, e = .returned (.iface t v) ∧ Hid (Below W2.heap.size W2 w') ∧ Hid (FmIn w' (w1.heap.size ≤ ·) (formC c) (.iface t v)) ∧ Hid (Below w1.heap.size w1 w')) := Lib.hid fun W2 hb2 w1 hb1 =>
    (cform_any hc w1 (hb2.trans (hb1.mono hb2.size))).mono fun e w' ⟨t, v, h1, h2, h3⟩ => ⟨t, v, h1, Lib.hid (hb1.trans (h3.mono hb1.size)), Lib.hid h2, Lib.hid h3⟩
  have H2 : Hid (∀ W2, Below W.heap.size W W2 → ∀ w1, Below W2.heap.size W2 w1 → Calls Tryz.prog 109 #[.slice x.pt th.length x.ct, .func (Fn.func 110) #[] #[]] w1 fun e w' => ∃ q k, e = .returned (.slice q th.length k) ∧ Hid (Below W2.heap.size W2 w') ∧ Hid (FsIn w' (w1.heap.size ≤ ·) (th.map formS) q k) ∧ Hid (Below w1.heap.size w1 w')) := Lib.hid fun W2 hb2 w1 hb1 =>
    (h1 w1 (hb2.trans (hb1.mono hb2.size))).mono fun e w' ⟨t, v, h1, h2, h3⟩ => ⟨t, v, h1, Lib.hid (hb1.trans (h3.mono hb1.size)), Lib.hid h2, Lib.hid h3⟩
  have H3 : Hid (∀ W2, Below W.heap.size W W2 → ∀ w1, Below W2.heap.size W2 w1 → Calls Tryz.prog 109 #[.slice x.pe el.length x.ce, .func (Fn.func 110) #[] #[]] w1 fun e w' => ∃ q k, e = .returned (.slice q el.length k) ∧ Hid (Below W2.heap.size W2 w') ∧ Hid (FsIn w' (w1.heap.size ≤ ·) (el.map formS) q k) ∧ Hid (Below w1.heap.size w1 w')) := Lib.hid fun W2 hb2 w1 hb1 =>
    (h2 w1 (hb2.trans (hb1.mono hb2.size))).mono fun e w' ⟨t, v, h1, h2, h3⟩ => ⟨t, v, h1, Lib.hid (hb1.trans (h3.mono hb1.size)), Lib.hid h2, Lib.hid h3⟩
  clear hA hc h1 h2
  show Calls Tryz.prog 110 #[.agg #[.int .i64 2, .int .i64 0, .int .i64 c.k, .int .i64 c.v, .int .i64 c.n, .slice x.pc c.ps.length x.cc, .slice x.pt th.length x.ct, .slice x.pe el.length x.ce]] W _
  generalize formC c = f at *
  have hl1 : (th.map formS).length = th.length := List.length_map ..
  have hl2 : (el.map formS).length = el.length := List.length_map ..
  generalize th.map formS = l1 at *
  generalize el.map formS = l2 at *
  generalize c.k = x3 at *
  generalize c.v = x4 at *
  generalize c.n = x5 at *
  generalize c.ps.length = x6 at *
  generalize th.length = n1 at *
  generalize el.length = n2 at *
  have HL1 := Lib.hid hl1
  have HL2 := Lib.hid hl2
  clear hl1 hl2
  obtain ⟨pc, cc, pt, ct, pe, ce⟩ := x
  simp only at *
  go_enter Tryz.func110, Tryz.ntmps110
  go_wp2_with fail
  generalize hW2 : W.alloc (.cells #[.int .i64 2, .int .i64 0, .int .i64 x3, .int .i64 x4, .int .i64 x5, .slice pc x6 cc, .slice pt n1 ct, .slice pe n2 ce] 84) = W2 at *
  have HX2 := Lib.hid (HX.out W2 rfl)
  have HK1 := Lib.hid (H1.out W2 HA.out)
  have HK2 := Lib.hid (H2.out W2 HA.out)
  have HK3 := Lib.hid (H3.out W2 HA.out)
  clear HX H1 H2 H3 hW2
  obtain ⟨y2, y3, y4, y5, y6, y7, -⟩ := HX2.out W2 (Below.refl _ _)
  go_region_held3 (fun w' => w'.cell? ⟨W.heap.size, 2, none⟩ = some (.int .i64 x3) ∧ w'.cell? ⟨W.heap.size, 3, none⟩ = some (.int .i64 x4) ∧ w'.cell? ⟨W.heap.size, 4, none⟩ = some (.int .i64 x5) ∧ w'.cell? ⟨W.heap.size, 5, none⟩ = some (.slice pc x6 cc) ∧ w'.cell? ⟨W.heap.size, 6, none⟩ = some (.slice pt n1 ct) ∧ w'.cell? ⟨W.heap.size, 7, none⟩ = some (.slice pe n2 ce) ∧ Hid (Below W2.heap.size W2 w'))
    (first
      | with_reducible exact HX2.out _ (Below.refl _ _).drew
      | with_reducible exact HX2.out _ (Below.refl _ _)
      | with_reducible exact HX2.out _ hb3.out
      | with_reducible exact HX2.out _ hb2.out
      | with_reducible exact HX2.out _ hb1.out
      | assumption | go_keep)
    (first
      | (go_at_call 105; with_reducible refine (HK1.out _ (held6 (W := W2) (by assumption))).mono ?_; rintro e w' ⟨t1, v1, rfl, hb1, hf1, hs1⟩)
      | (go_at_call 109; with_reducible refine (HK2.out _ (held6 (W := W2) (by assumption))).mono ?_; rintro e w' ⟨q2, k2, rfl, hb2, hf2, hs2⟩)
      | (go_at_call 109; with_reducible refine (HK3.out _ (held6 (W := W2) (by assumption))).mono ?_; rintro e w' ⟨q3, k3, rfl, hb3, hf3, hs3⟩))
  all_goals
    have HFM := Lib.hid (bran_in HA.out.size hf1.out hs2.out hs3.out hf2.out hf3.out HL1.out HL2.out (Below.refl _ _).drew hs1.out)
    have HBB := Lib.hid (HA.out.trans (hb3.out.mono HA.out.size))
    clear hf1 hf2 hf3 hs1 hs2 hs3 HX2 HK1 HK2 HK3
    go_wp2_with fail
    go_ret
    exact ⟨_, _, rfl, HFM.out, HBB.out⟩
end Go.Proofs.YtabdgnigmlpeaaaGreatDoor
