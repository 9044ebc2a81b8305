/- The source's next token: the others. -/
import Derived.Test.YtdhdjfkknfbmhaaGreatDoorKNext
namespace Go.Proofs.YtdhdjfkknfbmhaaGreatDoor
open Go.RowKit

set_option maxHeartbeats 4000000 in
set_option maxRecDepth 100000 in
theorem next3_any (w : World) (hG0 : Gl w) (sb rb : Nat) (l : Bs) (at' br : Nat) (h : Src w sb rb l at' br) (c : UInt8) (r : Bs) (hr : l.drop at' = c :: r) (hBr : Barr l at' br) (hb0 : isL c = false) (hb1 : bNum (c :: r) = false) (hnum : Hid (¬ (isD c = true ∨ (c = 45 ∧ isD (r.headD 0) = true)))) (hb2 : decide ((c :: r).head? = some 34) = true) (hq : Hid (c = 34)) :
    Calls Tryz.prog 27 #[.pointer (some ⟨sb, 0, none⟩)] w (QPost w sb rb l at' (tok (c :: r))) := by
  have hlt := h.lt
  have hrb := h.rlt
  have hl8 := h.len
  have hdl := drop_len hr h.le
  have hAB := (Below.refl w.heap.size w).alloc (Nat.le_refl _) zero3
  have hG := hG0.bel' hAB
  have hS := h.alloc zero3
  have HZ : Hid (∀ w3, Kp (w.alloc zero3) w3 sb → (w3.cell? ⟨w.heap.size, 0, none⟩ = some (.int .i64 0) ∧ w3.cell? ⟨w.heap.size, 1, none⟩ = some (.string ⟨#[]⟩) ∧ w3.cell? ⟨w.heap.size, 2, none⟩ = some (.int .i64 0)) ∧
    (w3.frozen? ⟨w.heap.size, 0, none⟩ = false ∧ w3.frozen? ⟨w.heap.size, 1, none⟩ = false ∧ w3.frozen? ⟨w.heap.size, 2, none⟩ = false) ∧ w.heap.size < w3.heap.size) := Lib.hid fun w3 hk => resZ hlt hk
  have HE : Hid (∀ w3 a br v0 v1 v2, Src w3 sb rb l a br → Kp (w.alloc zero3) w3 sb → ((tok3 w3 w.heap.size v0 v1 v2).cell? ⟨w.heap.size, 0, none⟩ = some v0 ∧ (tok3 w3 w.heap.size v0 v1 v2).cell? ⟨w.heap.size, 1, none⟩ = some v1 ∧ (tok3 w3 w.heap.size v0 v1 v2).cell? ⟨w.heap.size, 2, none⟩ = some v2) ∧
    Src (tok3 w3 w.heap.size v0 v1 v2) sb rb l a br ∧ Kp w (tok3 w3 w.heap.size v0 v1 v2) sb) := Lib.hid fun w3 a br v0 v1 v2 hs hk => tokEnd hs hk hlt hrb v0 v1 v2
  clear h hG0 hAB
  go_enter Tryz.func27, Tryz.ntmps27
  have k1 := hS.c1
  unfold zero3 at HZ HE hG hS k1
  go_wp2_with fail
  generalize w.alloc (.cells #[.int .i64 0, .string ⟨#[]⟩, .int .i64 0] 57) = wA at *
  clear k1
  have HBA := Lib.hid (Below.refl wA.heap.size wA)
  refine wp_loop_rounds 6 ?_
  have r0 := hS.rd 0 (by decide)
  have r1 := hS.rd 1 (by decide)
  unfold fnV at r0 r1
  have hN := Rnd.new hS hG 46 47
  have hBN := (Below.refl _ wA).alloc (Nat.le_refl _) (fObj 46 47)
  clear hS hG
  unfold fObj at hN hBN
  rw [rounds_succ]
  go_wp2_with fail
  clear r0 r1
  generalize wA.alloc (.cells #[.func (Fn.func 46) #[] #[], .func (Fn.func 47) #[] #[]] 121) = wB0 at *
  have f0 := hN.c0
  have f1 := hN.c1
  have hltB := hN.lt
  have HR : Hid (∀ w1, Below wB0.heap.size wB0 w1 → Calls Tryz.prog 55 #[.pointer (some ⟨sb, 0, none⟩)] w1 fun e w' => e = .returned (.string (S (c :: r))) ∧ w' = w1.drew) := Lib.hid fun w1 hb => by
      have := rest_any w1 sb rb l at' br (hN.src.bel hb (Nat.le_refl _))
      rwa [hr] at this
  have HW : Hid (∀ w1, Below wB0.heap.size wB0 w1 → Calls Tryz.prog 46 #[.string (S (c :: r))] w1 fun e w' => e = .returned (.bool false) ∧ Below w1.heap.size w1 w') := Lib.hid fun w1 hb => by
      have := beginsWord_any (c :: r) (by rw [List.length_cons]; omega) w1 (hN.gl.bel' hb)
      rwa [List.headD_cons, hb0] at this
  have HN := Lib.hid hN
  have HBN := Lib.hid hBN
  clear hN hBN
  go_region_held3 (fun w' => w'.cell? ⟨wA.heap.size, 0, none⟩ = some (.func (Fn.func 46) #[] #[]) ∧ w'.cell? ⟨wA.heap.size, 1, none⟩ = some (.func (Fn.func 47) #[] #[]) ∧ Hid (Below wB0.heap.size wB0 w')) (first | assumption | exact heldF hltB hltB f0 f1 (Below.refl _ _).drew | exact heldF hltB hltB f0 f1 (heldFB (by assumption)).drew | exact heldF hltB hltB f0 f1 ((heldFB (by assumption)).trans (by assumption))) (first | (go_at_call 55; refine (HR.out _ (by first | exact (Below.refl _ _).drew | exact heldFB (by assumption))).mono ?_; rintro e w' ⟨rfl, rfl⟩) | (go_at_call 46; refine (HW.out _ (by first | exact (Below.refl _ _).drew.drew | exact heldFB (by assumption))).mono ?_; rintro e w90 ⟨rfl, hz0⟩))
  have hB9 := (Below.refl wB0.heap.size wB0).drew.drew.trans hz0
  have m1 := (hB9.cell (p := ⟨wA.heap.size, 1, none⟩) hltB).trans f1
  have hS := HN.out.src.bel hB9 (Nat.le_refl _)
  have hG := HN.out.gl.bel' hB9
  have HBA0 := Lib.hid (HBA.out.trans ((HBN.out.trans (hB9.mono HBN.out.size)).mono HBA.out.size))
  clear hB9 hz0 f0 f1 HN HBN HR HW hltB
  have r0 := hS.rd 2 (by decide)
  have r1 := hS.rd 3 (by decide)
  unfold fnV at r0 r1
  have hN := Rnd.new hS hG 48 49
  have hBN := (Below.refl _ w90).alloc (Nat.le_refl _) (fObj 48 49)
  clear hS hG
  unfold fObj at hN hBN
  go_wp2_with fail
  rw [rounds_succ]
  go_wp2_with fail
  clear r0 r1
  generalize w90.alloc (.cells #[.func (Fn.func 48) #[] #[], .func (Fn.func 49) #[] #[]] 121) = wB1 at *
  have f0 := hN.c0
  have f1 := hN.c1
  have hltB := hN.lt
  have HR : Hid (∀ w1, Below wB1.heap.size wB1 w1 → Calls Tryz.prog 55 #[.pointer (some ⟨sb, 0, none⟩)] w1 fun e w' => e = .returned (.string (S (c :: r))) ∧ w' = w1.drew) := Lib.hid fun w1 hb => by
      have := rest_any w1 sb rb l at' br (hN.src.bel hb (Nat.le_refl _))
      rwa [hr] at this
  have HW : Hid (∀ w1, Below wB1.heap.size wB1 w1 → Calls Tryz.prog 48 #[.string (S (c :: r))] w1 fun e w' => e = .returned (.bool false) ∧ Below w1.heap.size w1 w') := Lib.hid fun w1 hb => by
      have := beginsNumber_any (c :: r) (by rw [List.length_cons]; omega) w1 (hN.gl.bel' hb)
      rwa [hb1] at this
  have HN := Lib.hid hN
  have HBN := Lib.hid hBN
  clear hN hBN
  go_region_held3 (fun w' => w'.cell? ⟨w90.heap.size, 0, none⟩ = some (.func (Fn.func 48) #[] #[]) ∧ w'.cell? ⟨w90.heap.size, 1, none⟩ = some (.func (Fn.func 49) #[] #[]) ∧ Hid (Below wB1.heap.size wB1 w')) (first | assumption | exact heldF hltB hltB f0 f1 (Below.refl _ _).drew | exact heldF hltB hltB f0 f1 (heldFB (by assumption)).drew | exact heldF hltB hltB f0 f1 ((heldFB (by assumption)).trans (by assumption))) (first | (go_at_call 55; refine (HR.out _ (by first | exact (Below.refl _ _).drew | exact heldFB (by assumption))).mono ?_; rintro e w' ⟨rfl, rfl⟩) | (go_at_call 48; refine (HW.out _ (by first | exact (Below.refl _ _).drew.drew | exact heldFB (by assumption))).mono ?_; rintro e w91 ⟨rfl, hz1⟩))
  have hB9 := (Below.refl wB1.heap.size wB1).drew.drew.trans hz1
  have m1 := (hB9.cell (p := ⟨w90.heap.size, 1, none⟩) hltB).trans f1
  have hS := HN.out.src.bel hB9 (Nat.le_refl _)
  have hG := HN.out.gl.bel' hB9
  have HBA1 := Lib.hid (HBA0.out.trans ((HBN.out.trans (hB9.mono HBN.out.size)).mono HBA0.out.size))
  clear hB9 hz1 f0 f1 HN HBN HR HW hltB
  have r0 := hS.rd 4 (by decide)
  have r1 := hS.rd 5 (by decide)
  unfold fnV at r0 r1
  have hN := Rnd.new hS hG 50 51
  have hBN := (Below.refl _ w91).alloc (Nat.le_refl _) (fObj 50 51)
  clear hS hG
  unfold fObj at hN hBN
  go_wp2_with fail
  rw [rounds_succ]
  go_wp2_with fail
  clear r0 r1
  generalize w91.alloc (.cells #[.func (Fn.func 50) #[] #[], .func (Fn.func 51) #[] #[]] 121) = wB2 at *
  have f0 := hN.c0
  have f1 := hN.c1
  have hltB := hN.lt
  have HR : Hid (∀ w1, Below wB2.heap.size wB2 w1 → Calls Tryz.prog 55 #[.pointer (some ⟨sb, 0, none⟩)] w1 fun e w' => e = .returned (.string (S (c :: r))) ∧ w' = w1.drew) := Lib.hid fun w1 hb => by
      have := rest_any w1 sb rb l at' br (hN.src.bel hb (Nat.le_refl _))
      rwa [hr] at this
  have HW : Hid (∀ w1, Below wB2.heap.size wB2 w1 → Calls Tryz.prog 50 #[.string (S (c :: r))] w1 fun e w' => e = .returned (.bool true) ∧ Below w1.heap.size w1 w') := Lib.hid fun w1 hb => by
      have := beginsText_any (c :: r) w1
      rwa [hb2] at this
  have HN := Lib.hid hN
  have HBN := Lib.hid hBN
  clear hN hBN
  go_region_held3 (fun w' => w'.cell? ⟨w91.heap.size, 0, none⟩ = some (.func (Fn.func 50) #[] #[]) ∧ w'.cell? ⟨w91.heap.size, 1, none⟩ = some (.func (Fn.func 51) #[] #[]) ∧ Hid (Below wB2.heap.size wB2 w')) (first | assumption | exact heldF hltB hltB f0 f1 (Below.refl _ _).drew | exact heldF hltB hltB f0 f1 (heldFB (by assumption)).drew | exact heldF hltB hltB f0 f1 ((heldFB (by assumption)).trans (by assumption))) (first | (go_at_call 55; refine (HR.out _ (by first | exact (Below.refl _ _).drew | exact heldFB (by assumption))).mono ?_; rintro e w' ⟨rfl, rfl⟩) | (go_at_call 50; refine (HW.out _ (by first | exact (Below.refl _ _).drew.drew | exact heldFB (by assumption))).mono ?_; rintro e w92 ⟨rfl, hz2⟩))
  have hB9 := (Below.refl wB2.heap.size wB2).drew.drew.trans hz2
  have m1 := (hB9.cell (p := ⟨w91.heap.size, 1, none⟩) hltB).trans f1
  have hS := HN.out.src.bel hB9 (Nat.le_refl _)
  have hG := HN.out.gl.bel' hB9
  have HBA2 := Lib.hid (HBA1.out.trans ((HBN.out.trans (hB9.mono HBN.out.size)).mono HBA1.out.size))
  clear hB9 hz2 f0 f1 HN HBN HR HW hltB
  have HC : Hid (Calls Tryz.prog 51 #[.pointer (some ⟨sb, 0, none⟩)] w92 (QPost w92 sb rb l at' (tok (c :: r)))) := Lib.hid (by
    rw [tok_cons, if_neg (by rw [hb0]; decide), if_neg hnum.out, if_pos hq.out]
    have hq1 := hq.out
    subst hq1
    exact srcQuoted_any _ hG sb rb l at' br hS r hr hBr)
  clear hS hG
  generalize tok (c :: r) = q at *
  go_wp2_with fail
  go_at_call 51
  refine HC.out.mono ?_
  rintro e w6 ⟨br6, rfl, hs6, hbr6, hk6⟩
  obtain ⟨⟨z0, z1, z2⟩, ⟨g0, g1, g2⟩, e5⟩ := HZ.out w6 ((Kp.ofBelow HBA2.out (Nat.le_refl _)).trans hk6)
  have HE6 := Lib.hid (HE.out w6 _ _ (.int .i64 q.1) (.string (S q.2.1)) (.int .i64 at') hs6 ((Kp.ofBelow HBA2.out (Nat.le_refl _)).trans hk6))
  clear hs6 hk6
  unfold tokV
  go_wp2_with fail
  obtain ⟨⟨q0, q1, q2⟩, F⟩ := HE6.out
  unfold tok3 at q0 q1 q2 F
  refine bodyPost_ret (v := tokV q.1 q.2.1 at') ?_ rfl ⟨br6, rfl, F.1, hbr6, F.2⟩
  simp [results, Tryz.results27, go_sem, q0, q1, q2, tokV]

set_option maxHeartbeats 4000000 in
set_option maxRecDepth 100000 in
theorem next4_any (w : World) (hG0 : Gl w) (sb rb : Nat) (l : Bs) (at' br : Nat) (h : Src w sb rb l at' br) (c : UInt8) (r : Bs) (hr : l.drop at' = c :: r) (hBr : Barr l at' br) (hb0 : isL c = false) (hb1 : bNum (c :: r) = false) (hnum : Hid (¬ (isD c = true ∨ (c = 45 ∧ isD (r.headD 0) = true)))) (hb2 : decide ((c :: r).head? = some 34) = false) (hq : Hid (¬ c = 34)) (hb3 : decide (sgn (c :: r) ≠ []) = true) (hsg : Hid (sgn (c :: r) ≠ [])) :
    Calls Tryz.prog 27 #[.pointer (some ⟨sb, 0, none⟩)] w (QPost w sb rb l at' (tok (c :: r))) := by
  have hlt := h.lt
  have hrb := h.rlt
  have hl8 := h.len
  have hdl := drop_len hr h.le
  have hAB := (Below.refl w.heap.size w).alloc (Nat.le_refl _) zero3
  have hG := hG0.bel' hAB
  have hS := h.alloc zero3
  have HZ : Hid (∀ w3, Kp (w.alloc zero3) w3 sb → (w3.cell? ⟨w.heap.size, 0, none⟩ = some (.int .i64 0) ∧ w3.cell? ⟨w.heap.size, 1, none⟩ = some (.string ⟨#[]⟩) ∧ w3.cell? ⟨w.heap.size, 2, none⟩ = some (.int .i64 0)) ∧
    (w3.frozen? ⟨w.heap.size, 0, none⟩ = false ∧ w3.frozen? ⟨w.heap.size, 1, none⟩ = false ∧ w3.frozen? ⟨w.heap.size, 2, none⟩ = false) ∧ w.heap.size < w3.heap.size) := Lib.hid fun w3 hk => resZ hlt hk
  have HE : Hid (∀ w3 a br v0 v1 v2, Src w3 sb rb l a br → Kp (w.alloc zero3) w3 sb → ((tok3 w3 w.heap.size v0 v1 v2).cell? ⟨w.heap.size, 0, none⟩ = some v0 ∧ (tok3 w3 w.heap.size v0 v1 v2).cell? ⟨w.heap.size, 1, none⟩ = some v1 ∧ (tok3 w3 w.heap.size v0 v1 v2).cell? ⟨w.heap.size, 2, none⟩ = some v2) ∧
    Src (tok3 w3 w.heap.size v0 v1 v2) sb rb l a br ∧ Kp w (tok3 w3 w.heap.size v0 v1 v2) sb) := Lib.hid fun w3 a br v0 v1 v2 hs hk => tokEnd hs hk hlt hrb v0 v1 v2
  clear h hG0 hAB
  go_enter Tryz.func27, Tryz.ntmps27
  have k1 := hS.c1
  unfold zero3 at HZ HE hG hS k1
  go_wp2_with fail
  generalize w.alloc (.cells #[.int .i64 0, .string ⟨#[]⟩, .int .i64 0] 57) = wA at *
  clear k1
  have HBA := Lib.hid (Below.refl wA.heap.size wA)
  refine wp_loop_rounds 6 ?_
  have r0 := hS.rd 0 (by decide)
  have r1 := hS.rd 1 (by decide)
  unfold fnV at r0 r1
  have hN := Rnd.new hS hG 46 47
  have hBN := (Below.refl _ wA).alloc (Nat.le_refl _) (fObj 46 47)
  clear hS hG
  unfold fObj at hN hBN
  rw [rounds_succ]
  go_wp2_with fail
  clear r0 r1
  generalize wA.alloc (.cells #[.func (Fn.func 46) #[] #[], .func (Fn.func 47) #[] #[]] 121) = wB0 at *
  have f0 := hN.c0
  have f1 := hN.c1
  have hltB := hN.lt
  have HR : Hid (∀ w1, Below wB0.heap.size wB0 w1 → Calls Tryz.prog 55 #[.pointer (some ⟨sb, 0, none⟩)] w1 fun e w' => e = .returned (.string (S (c :: r))) ∧ w' = w1.drew) := Lib.hid fun w1 hb => by
      have := rest_any w1 sb rb l at' br (hN.src.bel hb (Nat.le_refl _))
      rwa [hr] at this
  have HW : Hid (∀ w1, Below wB0.heap.size wB0 w1 → Calls Tryz.prog 46 #[.string (S (c :: r))] w1 fun e w' => e = .returned (.bool false) ∧ Below w1.heap.size w1 w') := Lib.hid fun w1 hb => by
      have := beginsWord_any (c :: r) (by rw [List.length_cons]; omega) w1 (hN.gl.bel' hb)
      rwa [List.headD_cons, hb0] at this
  have HN := Lib.hid hN
  have HBN := Lib.hid hBN
  clear hN hBN
  go_region_held3 (fun w' => w'.cell? ⟨wA.heap.size, 0, none⟩ = some (.func (Fn.func 46) #[] #[]) ∧ w'.cell? ⟨wA.heap.size, 1, none⟩ = some (.func (Fn.func 47) #[] #[]) ∧ Hid (Below wB0.heap.size wB0 w')) (first | assumption | exact heldF hltB hltB f0 f1 (Below.refl _ _).drew | exact heldF hltB hltB f0 f1 (heldFB (by assumption)).drew | exact heldF hltB hltB f0 f1 ((heldFB (by assumption)).trans (by assumption))) (first | (go_at_call 55; refine (HR.out _ (by first | exact (Below.refl _ _).drew | exact heldFB (by assumption))).mono ?_; rintro e w' ⟨rfl, rfl⟩) | (go_at_call 46; refine (HW.out _ (by first | exact (Below.refl _ _).drew.drew | exact heldFB (by assumption))).mono ?_; rintro e w90 ⟨rfl, hz0⟩))
  have hB9 := (Below.refl wB0.heap.size wB0).drew.drew.trans hz0
  have m1 := (hB9.cell (p := ⟨wA.heap.size, 1, none⟩) hltB).trans f1
  have hS := HN.out.src.bel hB9 (Nat.le_refl _)
  have hG := HN.out.gl.bel' hB9
  have HBA0 := Lib.hid (HBA.out.trans ((HBN.out.trans (hB9.mono HBN.out.size)).mono HBA.out.size))
  clear hB9 hz0 f0 f1 HN HBN HR HW hltB
  have r0 := hS.rd 2 (by decide)
  have r1 := hS.rd 3 (by decide)
  unfold fnV at r0 r1
  have hN := Rnd.new hS hG 48 49
  have hBN := (Below.refl _ w90).alloc (Nat.le_refl _) (fObj 48 49)
  clear hS hG
  unfold fObj at hN hBN
  go_wp2_with fail
  rw [rounds_succ]
  go_wp2_with fail
  clear r0 r1
  generalize w90.alloc (.cells #[.func (Fn.func 48) #[] #[], .func (Fn.func 49) #[] #[]] 121) = wB1 at *
  have f0 := hN.c0
  have f1 := hN.c1
  have hltB := hN.lt
  have HR : Hid (∀ w1, Below wB1.heap.size wB1 w1 → Calls Tryz.prog 55 #[.pointer (some ⟨sb, 0, none⟩)] w1 fun e w' => e = .returned (.string (S (c :: r))) ∧ w' = w1.drew) := Lib.hid fun w1 hb => by
      have := rest_any w1 sb rb l at' br (hN.src.bel hb (Nat.le_refl _))
      rwa [hr] at this
  have HW : Hid (∀ w1, Below wB1.heap.size wB1 w1 → Calls Tryz.prog 48 #[.string (S (c :: r))] w1 fun e w' => e = .returned (.bool false) ∧ Below w1.heap.size w1 w') := Lib.hid fun w1 hb => by
      have := beginsNumber_any (c :: r) (by rw [List.length_cons]; omega) w1 (hN.gl.bel' hb)
      rwa [hb1] at this
  have HN := Lib.hid hN
  have HBN := Lib.hid hBN
  clear hN hBN
  go_region_held3 (fun w' => w'.cell? ⟨w90.heap.size, 0, none⟩ = some (.func (Fn.func 48) #[] #[]) ∧ w'.cell? ⟨w90.heap.size, 1, none⟩ = some (.func (Fn.func 49) #[] #[]) ∧ Hid (Below wB1.heap.size wB1 w')) (first | assumption | exact heldF hltB hltB f0 f1 (Below.refl _ _).drew | exact heldF hltB hltB f0 f1 (heldFB (by assumption)).drew | exact heldF hltB hltB f0 f1 ((heldFB (by assumption)).trans (by assumption))) (first | (go_at_call 55; refine (HR.out _ (by first | exact (Below.refl _ _).drew | exact heldFB (by assumption))).mono ?_; rintro e w' ⟨rfl, rfl⟩) | (go_at_call 48; refine (HW.out _ (by first | exact (Below.refl _ _).drew.drew | exact heldFB (by assumption))).mono ?_; rintro e w91 ⟨rfl, hz1⟩))
  have hB9 := (Below.refl wB1.heap.size wB1).drew.drew.trans hz1
  have m1 := (hB9.cell (p := ⟨w90.heap.size, 1, none⟩) hltB).trans f1
  have hS := HN.out.src.bel hB9 (Nat.le_refl _)
  have hG := HN.out.gl.bel' hB9
  have HBA1 := Lib.hid (HBA0.out.trans ((HBN.out.trans (hB9.mono HBN.out.size)).mono HBA0.out.size))
  clear hB9 hz1 f0 f1 HN HBN HR HW hltB
  have r0 := hS.rd 4 (by decide)
  have r1 := hS.rd 5 (by decide)
  unfold fnV at r0 r1
  have hN := Rnd.new hS hG 50 51
  have hBN := (Below.refl _ w91).alloc (Nat.le_refl _) (fObj 50 51)
  clear hS hG
  unfold fObj at hN hBN
  go_wp2_with fail
  rw [rounds_succ]
  go_wp2_with fail
  clear r0 r1
  generalize w91.alloc (.cells #[.func (Fn.func 50) #[] #[], .func (Fn.func 51) #[] #[]] 121) = wB2 at *
  have f0 := hN.c0
  have f1 := hN.c1
  have hltB := hN.lt
  have HR : Hid (∀ w1, Below wB2.heap.size wB2 w1 → Calls Tryz.prog 55 #[.pointer (some ⟨sb, 0, none⟩)] w1 fun e w' => e = .returned (.string (S (c :: r))) ∧ w' = w1.drew) := Lib.hid fun w1 hb => by
      have := rest_any w1 sb rb l at' br (hN.src.bel hb (Nat.le_refl _))
      rwa [hr] at this
  have HW : Hid (∀ w1, Below wB2.heap.size wB2 w1 → Calls Tryz.prog 50 #[.string (S (c :: r))] w1 fun e w' => e = .returned (.bool false) ∧ Below w1.heap.size w1 w') := Lib.hid fun w1 hb => by
      have := beginsText_any (c :: r) w1
      rwa [hb2] at this
  have HN := Lib.hid hN
  have HBN := Lib.hid hBN
  clear hN hBN
  go_region_held3 (fun w' => w'.cell? ⟨w91.heap.size, 0, none⟩ = some (.func (Fn.func 50) #[] #[]) ∧ w'.cell? ⟨w91.heap.size, 1, none⟩ = some (.func (Fn.func 51) #[] #[]) ∧ Hid (Below wB2.heap.size wB2 w')) (first | assumption | exact heldF hltB hltB f0 f1 (Below.refl _ _).drew | exact heldF hltB hltB f0 f1 (heldFB (by assumption)).drew | exact heldF hltB hltB f0 f1 ((heldFB (by assumption)).trans (by assumption))) (first | (go_at_call 55; refine (HR.out _ (by first | exact (Below.refl _ _).drew | exact heldFB (by assumption))).mono ?_; rintro e w' ⟨rfl, rfl⟩) | (go_at_call 50; refine (HW.out _ (by first | exact (Below.refl _ _).drew.drew | exact heldFB (by assumption))).mono ?_; rintro e w92 ⟨rfl, hz2⟩))
  have hB9 := (Below.refl wB2.heap.size wB2).drew.drew.trans hz2
  have m1 := (hB9.cell (p := ⟨w91.heap.size, 1, none⟩) hltB).trans f1
  have hS := HN.out.src.bel hB9 (Nat.le_refl _)
  have hG := HN.out.gl.bel' hB9
  have HBA2 := Lib.hid (HBA1.out.trans ((HBN.out.trans (hB9.mono HBN.out.size)).mono HBA1.out.size))
  clear hB9 hz2 f0 f1 HN HBN HR HW hltB
  have r0 := hS.rd 6 (by decide)
  have r1 := hS.rd 7 (by decide)
  unfold fnV at r0 r1
  have hN := Rnd.new hS hG 52 53
  have hBN := (Below.refl _ w92).alloc (Nat.le_refl _) (fObj 52 53)
  clear hS hG
  unfold fObj at hN hBN
  go_wp2_with fail
  rw [rounds_succ]
  go_wp2_with fail
  clear r0 r1
  generalize w92.alloc (.cells #[.func (Fn.func 52) #[] #[], .func (Fn.func 53) #[] #[]] 121) = wB3 at *
  have f0 := hN.c0
  have f1 := hN.c1
  have hltB := hN.lt
  have HR : Hid (∀ w1, Below wB3.heap.size wB3 w1 → Calls Tryz.prog 55 #[.pointer (some ⟨sb, 0, none⟩)] w1 fun e w' => e = .returned (.string (S (c :: r))) ∧ w' = w1.drew) := Lib.hid fun w1 hb => by
      have := rest_any w1 sb rb l at' br (hN.src.bel hb (Nat.le_refl _))
      rwa [hr] at this
  have HW : Hid (∀ w1, Below wB3.heap.size wB3 w1 → Calls Tryz.prog 52 #[.string (S (c :: r))] w1 fun e w' => e = .returned (.bool true) ∧ Below w1.heap.size w1 w') := Lib.hid fun w1 hb => by
      have := beginsSign_any (c :: r) (by rw [List.length_cons]; omega) w1 (hN.gl.bel' hb)
      rwa [hb3] at this
  have HN := Lib.hid hN
  have HBN := Lib.hid hBN
  clear hN hBN
  go_region_held3 (fun w' => w'.cell? ⟨w92.heap.size, 0, none⟩ = some (.func (Fn.func 52) #[] #[]) ∧ w'.cell? ⟨w92.heap.size, 1, none⟩ = some (.func (Fn.func 53) #[] #[]) ∧ Hid (Below wB3.heap.size wB3 w')) (first | assumption | exact heldF hltB hltB f0 f1 (Below.refl _ _).drew | exact heldF hltB hltB f0 f1 (heldFB (by assumption)).drew | exact heldF hltB hltB f0 f1 ((heldFB (by assumption)).trans (by assumption))) (first | (go_at_call 55; refine (HR.out _ (by first | exact (Below.refl _ _).drew | exact heldFB (by assumption))).mono ?_; rintro e w' ⟨rfl, rfl⟩) | (go_at_call 52; refine (HW.out _ (by first | exact (Below.refl _ _).drew.drew | exact heldFB (by assumption))).mono ?_; rintro e w93 ⟨rfl, hz3⟩))
  have hB9 := (Below.refl wB3.heap.size wB3).drew.drew.trans hz3
  have m1 := (hB9.cell (p := ⟨w92.heap.size, 1, none⟩) hltB).trans f1
  have hS := HN.out.src.bel hB9 (Nat.le_refl _)
  have hG := HN.out.gl.bel' hB9
  have HBA3 := Lib.hid (HBA2.out.trans ((HBN.out.trans (hB9.mono HBN.out.size)).mono HBA2.out.size))
  clear hB9 hz3 f0 f1 HN HBN HR HW hltB
  have HC : Hid (Calls Tryz.prog 53 #[.pointer (some ⟨sb, 0, none⟩)] w93 (QPost w93 sb rb l at' (tok (c :: r)))) := Lib.hid (by
    rw [tok_cons, if_neg (by rw [hb0]; decide), if_neg hnum.out, if_neg hq.out, if_pos hsg.out]
    exact (srcSign_any _ hG sb rb l at' br hS c r hr).mono fun e w' h => ⟨br, h.1, h.2.1, hBr.mono (by show at' ≤ at' + (sgn (c :: r)).length; omega), h.2.2⟩)
  clear hS hG
  generalize tok (c :: r) = q at *
  go_wp2_with fail
  go_at_call 53
  refine HC.out.mono ?_
  rintro e w6 ⟨br6, rfl, hs6, hbr6, hk6⟩
  obtain ⟨⟨z0, z1, z2⟩, ⟨g0, g1, g2⟩, e5⟩ := HZ.out w6 ((Kp.ofBelow HBA3.out (Nat.le_refl _)).trans hk6)
  have HE6 := Lib.hid (HE.out w6 _ _ (.int .i64 q.1) (.string (S q.2.1)) (.int .i64 at') hs6 ((Kp.ofBelow HBA3.out (Nat.le_refl _)).trans hk6))
  clear hs6 hk6
  unfold tokV
  go_wp2_with fail
  obtain ⟨⟨q0, q1, q2⟩, F⟩ := HE6.out
  unfold tok3 at q0 q1 q2 F
  refine bodyPost_ret (v := tokV q.1 q.2.1 at') ?_ rfl ⟨br6, rfl, F.1, hbr6, F.2⟩
  simp [results, Tryz.results27, go_sem, q0, q1, q2, tokV]

set_option maxHeartbeats 4000000 in
set_option maxRecDepth 100000 in
theorem next5_any (w : World) (hG0 : Gl w) (sb rb : Nat) (l : Bs) (at' br : Nat) (h : Src w sb rb l at' br) (c : UInt8) (r : Bs) (hr : l.drop at' = c :: r) (hBr : Barr l at' br) (hb0 : isL c = false) (hb1 : bNum (c :: r) = false) (hnum : Hid (¬ (isD c = true ∨ (c = 45 ∧ isD (r.headD 0) = true)))) (hb2 : decide ((c :: r).head? = some 34) = false) (hq : Hid (¬ c = 34)) (hb3 : decide (sgn (c :: r) ≠ []) = false) (hsg : Hid (¬ sgn (c :: r) ≠ [])) :
    Calls Tryz.prog 27 #[.pointer (some ⟨sb, 0, none⟩)] w (QPost w sb rb l at' (tok (c :: r))) := by
  have hlt := h.lt
  have hrb := h.rlt
  have hl8 := h.len
  have hdl := drop_len hr h.le
  have hAB := (Below.refl w.heap.size w).alloc (Nat.le_refl _) zero3
  have hG := hG0.bel' hAB
  have hS := h.alloc zero3
  have HZ : Hid (∀ w3, Kp (w.alloc zero3) w3 sb → (w3.cell? ⟨w.heap.size, 0, none⟩ = some (.int .i64 0) ∧ w3.cell? ⟨w.heap.size, 1, none⟩ = some (.string ⟨#[]⟩) ∧ w3.cell? ⟨w.heap.size, 2, none⟩ = some (.int .i64 0)) ∧
    (w3.frozen? ⟨w.heap.size, 0, none⟩ = false ∧ w3.frozen? ⟨w.heap.size, 1, none⟩ = false ∧ w3.frozen? ⟨w.heap.size, 2, none⟩ = false) ∧ w.heap.size < w3.heap.size) := Lib.hid fun w3 hk => resZ hlt hk
  have HE : Hid (∀ w3 a br v0 v1 v2, Src w3 sb rb l a br → Kp (w.alloc zero3) w3 sb → ((tok3 w3 w.heap.size v0 v1 v2).cell? ⟨w.heap.size, 0, none⟩ = some v0 ∧ (tok3 w3 w.heap.size v0 v1 v2).cell? ⟨w.heap.size, 1, none⟩ = some v1 ∧ (tok3 w3 w.heap.size v0 v1 v2).cell? ⟨w.heap.size, 2, none⟩ = some v2) ∧
    Src (tok3 w3 w.heap.size v0 v1 v2) sb rb l a br ∧ Kp w (tok3 w3 w.heap.size v0 v1 v2) sb) := Lib.hid fun w3 a br v0 v1 v2 hs hk => tokEnd hs hk hlt hrb v0 v1 v2
  clear h hG0 hAB
  go_enter Tryz.func27, Tryz.ntmps27
  have k1 := hS.c1
  unfold zero3 at HZ HE hG hS k1
  go_wp2_with fail
  generalize w.alloc (.cells #[.int .i64 0, .string ⟨#[]⟩, .int .i64 0] 57) = wA at *
  clear k1
  have HBA := Lib.hid (Below.refl wA.heap.size wA)
  refine wp_loop_rounds 6 ?_
  have r0 := hS.rd 0 (by decide)
  have r1 := hS.rd 1 (by decide)
  unfold fnV at r0 r1
  have hN := Rnd.new hS hG 46 47
  have hBN := (Below.refl _ wA).alloc (Nat.le_refl _) (fObj 46 47)
  clear hS hG
  unfold fObj at hN hBN
  rw [rounds_succ]
  go_wp2_with fail
  clear r0 r1
  generalize wA.alloc (.cells #[.func (Fn.func 46) #[] #[], .func (Fn.func 47) #[] #[]] 121) = wB0 at *
  have f0 := hN.c0
  have f1 := hN.c1
  have hltB := hN.lt
  have HR : Hid (∀ w1, Below wB0.heap.size wB0 w1 → Calls Tryz.prog 55 #[.pointer (some ⟨sb, 0, none⟩)] w1 fun e w' => e = .returned (.string (S (c :: r))) ∧ w' = w1.drew) := Lib.hid fun w1 hb => by
      have := rest_any w1 sb rb l at' br (hN.src.bel hb (Nat.le_refl _))
      rwa [hr] at this
  have HW : Hid (∀ w1, Below wB0.heap.size wB0 w1 → Calls Tryz.prog 46 #[.string (S (c :: r))] w1 fun e w' => e = .returned (.bool false) ∧ Below w1.heap.size w1 w') := Lib.hid fun w1 hb => by
      have := beginsWord_any (c :: r) (by rw [List.length_cons]; omega) w1 (hN.gl.bel' hb)
      rwa [List.headD_cons, hb0] at this
  have HN := Lib.hid hN
  have HBN := Lib.hid hBN
  clear hN hBN
  go_region_held3 (fun w' => w'.cell? ⟨wA.heap.size, 0, none⟩ = some (.func (Fn.func 46) #[] #[]) ∧ w'.cell? ⟨wA.heap.size, 1, none⟩ = some (.func (Fn.func 47) #[] #[]) ∧ Hid (Below wB0.heap.size wB0 w')) (first | assumption | exact heldF hltB hltB f0 f1 (Below.refl _ _).drew | exact heldF hltB hltB f0 f1 (heldFB (by assumption)).drew | exact heldF hltB hltB f0 f1 ((heldFB (by assumption)).trans (by assumption))) (first | (go_at_call 55; refine (HR.out _ (by first | exact (Below.refl _ _).drew | exact heldFB (by assumption))).mono ?_; rintro e w' ⟨rfl, rfl⟩) | (go_at_call 46; refine (HW.out _ (by first | exact (Below.refl _ _).drew.drew | exact heldFB (by assumption))).mono ?_; rintro e w90 ⟨rfl, hz0⟩))
  have hB9 := (Below.refl wB0.heap.size wB0).drew.drew.trans hz0
  have m1 := (hB9.cell (p := ⟨wA.heap.size, 1, none⟩) hltB).trans f1
  have hS := HN.out.src.bel hB9 (Nat.le_refl _)
  have hG := HN.out.gl.bel' hB9
  have HBA0 := Lib.hid (HBA.out.trans ((HBN.out.trans (hB9.mono HBN.out.size)).mono HBA.out.size))
  clear hB9 hz0 f0 f1 HN HBN HR HW hltB
  have r0 := hS.rd 2 (by decide)
  have r1 := hS.rd 3 (by decide)
  unfold fnV at r0 r1
  have hN := Rnd.new hS hG 48 49
  have hBN := (Below.refl _ w90).alloc (Nat.le_refl _) (fObj 48 49)
  clear hS hG
  unfold fObj at hN hBN
  go_wp2_with fail
  rw [rounds_succ]
  go_wp2_with fail
  clear r0 r1
  generalize w90.alloc (.cells #[.func (Fn.func 48) #[] #[], .func (Fn.func 49) #[] #[]] 121) = wB1 at *
  have f0 := hN.c0
  have f1 := hN.c1
  have hltB := hN.lt
  have HR : Hid (∀ w1, Below wB1.heap.size wB1 w1 → Calls Tryz.prog 55 #[.pointer (some ⟨sb, 0, none⟩)] w1 fun e w' => e = .returned (.string (S (c :: r))) ∧ w' = w1.drew) := Lib.hid fun w1 hb => by
      have := rest_any w1 sb rb l at' br (hN.src.bel hb (Nat.le_refl _))
      rwa [hr] at this
  have HW : Hid (∀ w1, Below wB1.heap.size wB1 w1 → Calls Tryz.prog 48 #[.string (S (c :: r))] w1 fun e w' => e = .returned (.bool false) ∧ Below w1.heap.size w1 w') := Lib.hid fun w1 hb => by
      have := beginsNumber_any (c :: r) (by rw [List.length_cons]; omega) w1 (hN.gl.bel' hb)
      rwa [hb1] at this
  have HN := Lib.hid hN
  have HBN := Lib.hid hBN
  clear hN hBN
  go_region_held3 (fun w' => w'.cell? ⟨w90.heap.size, 0, none⟩ = some (.func (Fn.func 48) #[] #[]) ∧ w'.cell? ⟨w90.heap.size, 1, none⟩ = some (.func (Fn.func 49) #[] #[]) ∧ Hid (Below wB1.heap.size wB1 w')) (first | assumption | exact heldF hltB hltB f0 f1 (Below.refl _ _).drew | exact heldF hltB hltB f0 f1 (heldFB (by assumption)).drew | exact heldF hltB hltB f0 f1 ((heldFB (by assumption)).trans (by assumption))) (first | (go_at_call 55; refine (HR.out _ (by first | exact (Below.refl _ _).drew | exact heldFB (by assumption))).mono ?_; rintro e w' ⟨rfl, rfl⟩) | (go_at_call 48; refine (HW.out _ (by first | exact (Below.refl _ _).drew.drew | exact heldFB (by assumption))).mono ?_; rintro e w91 ⟨rfl, hz1⟩))
  have hB9 := (Below.refl wB1.heap.size wB1).drew.drew.trans hz1
  have m1 := (hB9.cell (p := ⟨w90.heap.size, 1, none⟩) hltB).trans f1
  have hS := HN.out.src.bel hB9 (Nat.le_refl _)
  have hG := HN.out.gl.bel' hB9
  have HBA1 := Lib.hid (HBA0.out.trans ((HBN.out.trans (hB9.mono HBN.out.size)).mono HBA0.out.size))
  clear hB9 hz1 f0 f1 HN HBN HR HW hltB
  have r0 := hS.rd 4 (by decide)
  have r1 := hS.rd 5 (by decide)
  unfold fnV at r0 r1
  have hN := Rnd.new hS hG 50 51
  have hBN := (Below.refl _ w91).alloc (Nat.le_refl _) (fObj 50 51)
  clear hS hG
  unfold fObj at hN hBN
  go_wp2_with fail
  rw [rounds_succ]
  go_wp2_with fail
  clear r0 r1
  generalize w91.alloc (.cells #[.func (Fn.func 50) #[] #[], .func (Fn.func 51) #[] #[]] 121) = wB2 at *
  have f0 := hN.c0
  have f1 := hN.c1
  have hltB := hN.lt
  have HR : Hid (∀ w1, Below wB2.heap.size wB2 w1 → Calls Tryz.prog 55 #[.pointer (some ⟨sb, 0, none⟩)] w1 fun e w' => e = .returned (.string (S (c :: r))) ∧ w' = w1.drew) := Lib.hid fun w1 hb => by
      have := rest_any w1 sb rb l at' br (hN.src.bel hb (Nat.le_refl _))
      rwa [hr] at this
  have HW : Hid (∀ w1, Below wB2.heap.size wB2 w1 → Calls Tryz.prog 50 #[.string (S (c :: r))] w1 fun e w' => e = .returned (.bool false) ∧ Below w1.heap.size w1 w') := Lib.hid fun w1 hb => by
      have := beginsText_any (c :: r) w1
      rwa [hb2] at this
  have HN := Lib.hid hN
  have HBN := Lib.hid hBN
  clear hN hBN
  go_region_held3 (fun w' => w'.cell? ⟨w91.heap.size, 0, none⟩ = some (.func (Fn.func 50) #[] #[]) ∧ w'.cell? ⟨w91.heap.size, 1, none⟩ = some (.func (Fn.func 51) #[] #[]) ∧ Hid (Below wB2.heap.size wB2 w')) (first | assumption | exact heldF hltB hltB f0 f1 (Below.refl _ _).drew | exact heldF hltB hltB f0 f1 (heldFB (by assumption)).drew | exact heldF hltB hltB f0 f1 ((heldFB (by assumption)).trans (by assumption))) (first | (go_at_call 55; refine (HR.out _ (by first | exact (Below.refl _ _).drew | exact heldFB (by assumption))).mono ?_; rintro e w' ⟨rfl, rfl⟩) | (go_at_call 50; refine (HW.out _ (by first | exact (Below.refl _ _).drew.drew | exact heldFB (by assumption))).mono ?_; rintro e w92 ⟨rfl, hz2⟩))
  have hB9 := (Below.refl wB2.heap.size wB2).drew.drew.trans hz2
  have m1 := (hB9.cell (p := ⟨w91.heap.size, 1, none⟩) hltB).trans f1
  have hS := HN.out.src.bel hB9 (Nat.le_refl _)
  have hG := HN.out.gl.bel' hB9
  have HBA2 := Lib.hid (HBA1.out.trans ((HBN.out.trans (hB9.mono HBN.out.size)).mono HBA1.out.size))
  clear hB9 hz2 f0 f1 HN HBN HR HW hltB
  have r0 := hS.rd 6 (by decide)
  have r1 := hS.rd 7 (by decide)
  unfold fnV at r0 r1
  have hN := Rnd.new hS hG 52 53
  have hBN := (Below.refl _ w92).alloc (Nat.le_refl _) (fObj 52 53)
  clear hS hG
  unfold fObj at hN hBN
  go_wp2_with fail
  rw [rounds_succ]
  go_wp2_with fail
  clear r0 r1
  generalize w92.alloc (.cells #[.func (Fn.func 52) #[] #[], .func (Fn.func 53) #[] #[]] 121) = wB3 at *
  have f0 := hN.c0
  have f1 := hN.c1
  have hltB := hN.lt
  have HR : Hid (∀ w1, Below wB3.heap.size wB3 w1 → Calls Tryz.prog 55 #[.pointer (some ⟨sb, 0, none⟩)] w1 fun e w' => e = .returned (.string (S (c :: r))) ∧ w' = w1.drew) := Lib.hid fun w1 hb => by
      have := rest_any w1 sb rb l at' br (hN.src.bel hb (Nat.le_refl _))
      rwa [hr] at this
  have HW : Hid (∀ w1, Below wB3.heap.size wB3 w1 → Calls Tryz.prog 52 #[.string (S (c :: r))] w1 fun e w' => e = .returned (.bool false) ∧ Below w1.heap.size w1 w') := Lib.hid fun w1 hb => by
      have := beginsSign_any (c :: r) (by rw [List.length_cons]; omega) w1 (hN.gl.bel' hb)
      rwa [hb3] at this
  have HN := Lib.hid hN
  have HBN := Lib.hid hBN
  clear hN hBN
  go_region_held3 (fun w' => w'.cell? ⟨w92.heap.size, 0, none⟩ = some (.func (Fn.func 52) #[] #[]) ∧ w'.cell? ⟨w92.heap.size, 1, none⟩ = some (.func (Fn.func 53) #[] #[]) ∧ Hid (Below wB3.heap.size wB3 w')) (first | assumption | exact heldF hltB hltB f0 f1 (Below.refl _ _).drew | exact heldF hltB hltB f0 f1 (heldFB (by assumption)).drew | exact heldF hltB hltB f0 f1 ((heldFB (by assumption)).trans (by assumption))) (first | (go_at_call 55; refine (HR.out _ (by first | exact (Below.refl _ _).drew | exact heldFB (by assumption))).mono ?_; rintro e w' ⟨rfl, rfl⟩) | (go_at_call 52; refine (HW.out _ (by first | exact (Below.refl _ _).drew.drew | exact heldFB (by assumption))).mono ?_; rintro e w93 ⟨rfl, hz3⟩))
  have hB9 := (Below.refl wB3.heap.size wB3).drew.drew.trans hz3
  have m1 := (hB9.cell (p := ⟨w92.heap.size, 1, none⟩) hltB).trans f1
  have hS := HN.out.src.bel hB9 (Nat.le_refl _)
  have hG := HN.out.gl.bel' hB9
  have HBA3 := Lib.hid (HBA2.out.trans ((HBN.out.trans (hB9.mono HBN.out.size)).mono HBA2.out.size))
  clear hB9 hz3 f0 f1 HN HBN HR HW hltB
  have HC : Hid (Calls Tryz.prog 56 #[.pointer (some ⟨sb, 0, none⟩), .int .i64 0, .int .i64 1] w93 (QPost w93 sb rb l at' (tok (c :: r)))) := Lib.hid (by
    rw [tok_cons, if_neg (by rw [hb0]; decide), if_neg hnum.out, if_neg hq.out, if_neg hsg.out]
    exact (take_any _ sb rb l at' br hS 0 1 (by omega)).mono fun e w' h => ⟨br, by rw [h.1, hr], h.2.1, hBr.mono (by show at' ≤ at' + 1; omega), h.2.2⟩)
  clear hS hG
  generalize tok (c :: r) = q at *
  go_wp2_with fail
  rw [rounds_succ]
  go_wp2_with fail
  go_at_call 56
  refine HC.out.mono ?_
  rintro e w6 ⟨br6, rfl, hs6, hbr6, hk6⟩
  obtain ⟨⟨z0, z1, z2⟩, ⟨g0, g1, g2⟩, e5⟩ := HZ.out w6 ((Kp.ofBelow HBA3.out (Nat.le_refl _)).trans hk6)
  have HE6 := Lib.hid (HE.out w6 _ _ (.int .i64 q.1) (.string (S q.2.1)) (.int .i64 at') hs6 ((Kp.ofBelow HBA3.out (Nat.le_refl _)).trans hk6))
  clear hs6 hk6
  unfold tokV
  go_wp2_with fail
  obtain ⟨⟨q0, q1, q2⟩, F⟩ := HE6.out
  unfold tok3 at q0 q1 q2 F
  refine bodyPost_ret (v := tokV q.1 q.2.1 at') ?_ rfl ⟨br6, rfl, F.1, hbr6, F.2⟩
  simp [results, Tryz.results27, go_sem, q0, q1, q2, tokV]
end Go.Proofs.YtdhdjfkknfbmhaaGreatDoor
