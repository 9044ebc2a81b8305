/- The source's next token. -/
import Derived.Test.YtdhdjfkknfbmhaaGreatDoorKSrc3
import Derived.Laws.EntriesVeiled
namespace Go.Proofs.YtdhdjfkknfbmhaaGreatDoor
open Go.RowKit

theorem beginsWord_any (l : Bs) (hb : l.length ≤ 100000) (w : World) (hG : Gl w) :
    Calls Tryz.prog 46 #[.string (S l)] w fun e w' => e = .returned (.bool (isL (l.headD 0))) ∧ Below w.heap.size w w' := by
  have HC := Lib.hid (beginsWith_any 1 (by decide) l (by omega) w hG)
  clear hG
  change Hid (Calls _ _ _ _ fun e w' => e = .returned (.bool (isL (l.headD 0))) ∧ w' = w) at HC
  generalize isL (l.headD 0) = q at *
  go_enter Tryz.func46, Tryz.ntmps46
  go_wp2_with fail
  go_at_call 105
  refine HC.out.mono ?_
  rintro e w1 ⟨rfl, rfl⟩
  go_wp2_with fail
  go_ret
  exact ⟨rfl, Below.refl _ _⟩
def bNum (l : Bs) : Bool := isD (l.headD 0) || (l.headD 0 == 45 && isD (l.tail.headD 0))
theorem bNum_eq (l : Bs) : isD ((Lib.trimPrefix l [45]).headD 0) = bNum l := by
  unfold Lib.trimPrefix Lib.hasPrefix bNum
  cases l with
  | nil => rfl
  | cons c t =>
    by_cases h : c = 45
    · subst h
      simp [List.isPrefixOf]
      intro h; exact absurd h (by decide)
    · have h1 : ((45 : UInt8) == c) = false := by simpa using fun e : 45 = c => h e.symm
      have h2 : (c == 45) = false := by simpa using h
      simp [List.isPrefixOf, h1, h2]
theorem beginsNumber_any (l : Bs) (hb : l.length ≤ 100000) (w : World) (hG : Gl w) :
    Calls Tryz.prog 48 #[.string (S l)] w fun e w' => e = .returned (.bool (bNum l)) ∧ Below w.heap.size w w' := by
  have HT := Lib.hid (trimPrefix_any l [45] w)
  have HC := Lib.hid (beginsWith_any 2 (by decide) (Lib.trimPrefix l [45]) (by have := trimP_len l [45]; omega) w hG)
  clear hG
  change Hid (Calls _ _ #[.string (S l), .string ⟨#[45]⟩] _ _) at HT
  change Hid (Calls _ _ _ _ fun e w' => e = .returned (.bool (isD ((Lib.trimPrefix l [45]).headD 0))) ∧ w' = w) at HC
  rw [bNum_eq] at HC
  generalize S (Lib.trimPrefix l [45]) = st at *
  go_enter Tryz.func48, Tryz.ntmps48
  go_wp2_with fail
  go_at_call 107
  refine HT.out.mono ?_
  rintro e w1 ⟨rfl, rfl⟩
  go_wp2_with fail
  go_at_call 105
  refine HC.out.mono ?_
  rintro e w1 ⟨rfl, rfl⟩
  go_wp2_with fail
  go_ret
  exact ⟨rfl, Below.refl _ _⟩
theorem beginsText_any (l : Bs) (w : World) :
    Calls Tryz.prog 50 #[.string (S l)] w fun e w' => e = .returned (.bool (decide (l.head? = some 34))) ∧ Below w.heap.size w w' := by
  have HT := Lib.hid (hasPrefix_any l [34] w)
  rw [hasPrefix_q] at HT
  change Hid (Calls _ _ #[.string (S l), .string ⟨#[34]⟩] _ _) at HT
  go_enter Tryz.func50, Tryz.ntmps50
  go_wp2_with fail
  go_at_call 110
  refine HT.out.mono ?_
  rintro e w1 ⟨rfl, rfl⟩
  go_wp2_with fail
  go_ret
  exact ⟨rfl, Below.refl _ _⟩
theorem beginsSign_any (l : Bs) (hb : l.length ≤ 100000) (w : World) (hG : Gl w) :
    Calls Tryz.prog 52 #[.string (S l)] w fun e w' => e = .returned (.bool (decide (sgn l ≠ []))) ∧ Below w.heap.size w w' := by
  have HT := Lib.hid (firstSign_any l hb w hG)
  have HE := Lib.hid (S_toList (sgn l))
  clear hG
  go_enter Tryz.func52, Tryz.ntmps52
  go_wp2_with fail
  go_at_call 112
  refine HT.out.mono ?_
  rintro e w1 ⟨rfl, hb1⟩
  have HB := Lib.hid hb1; clear hb1
  go_wp2_with fail
  go_ret
  refine ⟨ret_bool ?_, HB.out⟩
  rw [HE.out]
  cases sgn l <;> rfl

/-- A reader of the table in a block of its own. -/
def fObj (f g : Nat) : Obj := .cells #[.func (Fn.func f) #[] #[], .func (Fn.func g) #[] #[]] 121
theorem heldF {wB w1 : World} {p q : Addr} {f g : Value} (hp : p.block < wB.heap.size) (hq : q.block < wB.heap.size) (h0 : wB.cell? p = some f) (h1 : wB.cell? q = some g) (hb : Below wB.heap.size wB w1) :
    w1.cell? p = some f ∧ w1.cell? q = some g ∧ Hid (Below wB.heap.size wB w1) := ⟨(hb.cell hp).trans h0, (hb.cell hq).trans h1, Lib.hid hb⟩
theorem heldFB {wB w1 : World} {p q : Prop} (h : p ∧ q ∧ Hid (Below wB.heap.size wB w1)) : Below wB.heap.size wB w1 := h.2.2.out
/-- What a round leaves: the world of which the next thing is asked. -/
structure Rnd (wA wB : World) (sb rb : Nat) (l : Bs) (at' br : Nat) (f g : Nat) : Prop where
  c0 : wB.cell? ⟨wA.heap.size, 0, none⟩ = some (.func (Fn.func f) #[] #[])
  c1 : wB.cell? ⟨wA.heap.size, 1, none⟩ = some (.func (Fn.func g) #[] #[])
  src : Src wB sb rb l at' br
  gl : Gl wB
  bel : Below wA.heap.size wA wB
  lt : wA.heap.size < wB.heap.size
theorem Rnd.new {wA : World} {sb rb : Nat} {l : Bs} {at' br : Nat} (hs : Src wA sb rb l at' br) (hg : Gl wA) (f g : Nat) : Rnd wA (wA.alloc (fObj f g)) sb rb l at' br f g :=
  ⟨by simp [go_sem, fObj], by simp [go_sem, fObj], hs.alloc _, hg.bel' ((Below.refl _ _).alloc (Nat.le_refl _) _), (Below.refl _ _).alloc (Nat.le_refl _) _, by simp⟩

set_option maxHeartbeats 4000000 in
set_option maxRecDepth 100000 in
theorem next1_any (w : World) (hG0 : Gl w) (sb rb : Nat) (l : Bs) (at' br : Nat) (h : Src w sb rb l at' br) (c : UInt8) (r : Bs) (hr : l.drop at' = c :: r) (hBr : Barr l at' br) (hb0 : isL c = true) :
    Calls Tryz.prog 27 #[.pointer (some ⟨sb, 0, none⟩)] w (QPost w sb rb l at' (tok (c :: r))) := by
  have hlt := h.lt
  have hrb := h.rlt
  have hl8 := h.len
  have hdl := drop_len hr h.le
  have hAB := (Below.refl w.heap.size w).alloc (Nat.le_refl _) zero3
  have hG := hG0.bel' hAB
  have hS := h.alloc zero3
  have HZ : Hid (∀ w3, Kp (w.alloc zero3) w3 sb → (w3.cell? ⟨w.heap.size, 0, none⟩ = some (.int .i64 0) ∧ w3.cell? ⟨w.heap.size, 1, none⟩ = some (.string ⟨#[]⟩) ∧ w3.cell? ⟨w.heap.size, 2, none⟩ = some (.int .i64 0)) ∧
    (w3.frozen? ⟨w.heap.size, 0, none⟩ = false ∧ w3.frozen? ⟨w.heap.size, 1, none⟩ = false ∧ w3.frozen? ⟨w.heap.size, 2, none⟩ = false) ∧ w.heap.size < w3.heap.size) := Lib.hid fun w3 hk => resZ hlt hk
  have HE : Hid (∀ w3 a br v0 v1 v2, Src w3 sb rb l a br → Kp (w.alloc zero3) w3 sb → ((tok3 w3 w.heap.size v0 v1 v2).cell? ⟨w.heap.size, 0, none⟩ = some v0 ∧ (tok3 w3 w.heap.size v0 v1 v2).cell? ⟨w.heap.size, 1, none⟩ = some v1 ∧ (tok3 w3 w.heap.size v0 v1 v2).cell? ⟨w.heap.size, 2, none⟩ = some v2) ∧
    Src (tok3 w3 w.heap.size v0 v1 v2) sb rb l a br ∧ Kp w (tok3 w3 w.heap.size v0 v1 v2) sb) := Lib.hid fun w3 a br v0 v1 v2 hs hk => tokEnd hs hk hlt hrb v0 v1 v2
  clear h hG0 hAB
  go_enter Tryz.func27, Tryz.ntmps27
  have k1 := hS.c1
  unfold zero3 at HZ HE hG hS k1
  go_wp2_with fail
  generalize w.alloc (.cells #[.int .i64 0, .string ⟨#[]⟩, .int .i64 0] 57) = wA at *
  clear k1
  have HBA := Lib.hid (Below.refl wA.heap.size wA)
  refine wp_loop_rounds 6 ?_
  have r0 := hS.rd 0 (by decide)
  have r1 := hS.rd 1 (by decide)
  unfold fnV at r0 r1
  have hN := Rnd.new hS hG 46 47
  have hBN := (Below.refl _ wA).alloc (Nat.le_refl _) (fObj 46 47)
  clear hS hG
  unfold fObj at hN hBN
  rw [rounds_succ]
  go_wp2_with fail
  clear r0 r1
  generalize wA.alloc (.cells #[.func (Fn.func 46) #[] #[], .func (Fn.func 47) #[] #[]] 121) = wB0 at *
  have f0 := hN.c0
  have f1 := hN.c1
  have hltB := hN.lt
  have HR : Hid (∀ w1, Below wB0.heap.size wB0 w1 → Calls Tryz.prog 55 #[.pointer (some ⟨sb, 0, none⟩)] w1 fun e w' => e = .returned (.string (S (c :: r))) ∧ w' = w1.drew) := Lib.hid fun w1 hb => by
      have := rest_any w1 sb rb l at' br (hN.src.bel hb (Nat.le_refl _))
      rwa [hr] at this
  have HW : Hid (∀ w1, Below wB0.heap.size wB0 w1 → Calls Tryz.prog 46 #[.string (S (c :: r))] w1 fun e w' => e = .returned (.bool true) ∧ Below w1.heap.size w1 w') := Lib.hid fun w1 hb => by
      have := beginsWord_any (c :: r) (by rw [List.length_cons]; omega) w1 (hN.gl.bel' hb)
      rwa [List.headD_cons, hb0] at this
  have HN := Lib.hid hN
  have HBN := Lib.hid hBN
  clear hN hBN
  go_region_held3 (fun w' => w'.cell? ⟨wA.heap.size, 0, none⟩ = some (.func (Fn.func 46) #[] #[]) ∧ w'.cell? ⟨wA.heap.size, 1, none⟩ = some (.func (Fn.func 47) #[] #[]) ∧ Hid (Below wB0.heap.size wB0 w')) (first | assumption | exact heldF hltB hltB f0 f1 (Below.refl _ _).drew | exact heldF hltB hltB f0 f1 (heldFB (by assumption)).drew | exact heldF hltB hltB f0 f1 ((heldFB (by assumption)).trans (by assumption))) (first | (go_at_call 55; refine (HR.out _ (by first | exact (Below.refl _ _).drew | exact heldFB (by assumption))).mono ?_; rintro e w' ⟨rfl, rfl⟩) | (go_at_call 46; refine (HW.out _ (by first | exact (Below.refl _ _).drew.drew | exact heldFB (by assumption))).mono ?_; rintro e w90 ⟨rfl, hz0⟩))
  have hB9 := (Below.refl wB0.heap.size wB0).drew.drew.trans hz0
  have m1 := (hB9.cell (p := ⟨wA.heap.size, 1, none⟩) hltB).trans f1
  have hS := HN.out.src.bel hB9 (Nat.le_refl _)
  have hG := HN.out.gl.bel' hB9
  have HBA0 := Lib.hid (HBA.out.trans ((HBN.out.trans (hB9.mono HBN.out.size)).mono HBA.out.size))
  clear hB9 hz0 f0 f1 HN HBN HR HW hltB
  have HC : Hid (Calls Tryz.prog 47 #[.pointer (some ⟨sb, 0, none⟩)] w90 (QPost w90 sb rb l at' (tok (c :: r)))) := Lib.hid (by
    rw [tok_cons, if_pos hb0]
    exact (srcWord_any _ hG sb rb l at' br hS c r hr).mono fun e w' h => ⟨br, h.1, h.2.1, hBr.mono (by show at' ≤ at' + (wdLen r + 1); omega), h.2.2⟩)
  clear hS hG
  generalize tok (c :: r) = q at *
  go_wp2_with fail
  go_at_call 47
  refine HC.out.mono ?_
  rintro e w6 ⟨br6, rfl, hs6, hbr6, hk6⟩
  obtain ⟨⟨z0, z1, z2⟩, ⟨g0, g1, g2⟩, e5⟩ := HZ.out w6 ((Kp.ofBelow HBA0.out (Nat.le_refl _)).trans hk6)
  have HE6 := Lib.hid (HE.out w6 _ _ (.int .i64 q.1) (.string (S q.2.1)) (.int .i64 at') hs6 ((Kp.ofBelow HBA0.out (Nat.le_refl _)).trans hk6))
  clear hs6 hk6
  unfold tokV
  go_wp2_with fail
  obtain ⟨⟨q0, q1, q2⟩, F⟩ := HE6.out
  unfold tok3 at q0 q1 q2 F
  refine bodyPost_ret (v := tokV q.1 q.2.1 at') ?_ rfl ⟨br6, rfl, F.1, hbr6, F.2⟩
  simp [results, Tryz.results27, go_sem, q0, q1, q2, tokV]

set_option maxHeartbeats 4000000 in
set_option maxRecDepth 100000 in
theorem next2_any (w : World) (hG0 : Gl w) (sb rb : Nat) (l : Bs) (at' br : Nat) (h : Src w sb rb l at' br) (c : UInt8) (r : Bs) (hr : l.drop at' = c :: r) (hBr : Barr l at' br) (hb0 : isL c = false) (hb1 : bNum (c :: r) = true) (hnum : isD c = true ∨ (c = 45 ∧ isD (r.headD 0) = true)) :
    Calls Tryz.prog 27 #[.pointer (some ⟨sb, 0, none⟩)] w (QPost w sb rb l at' (tok (c :: r))) := by
  have hlt := h.lt
  have hrb := h.rlt
  have hl8 := h.len
  have hdl := drop_len hr h.le
  have hAB := (Below.refl w.heap.size w).alloc (Nat.le_refl _) zero3
  have hG := hG0.bel' hAB
  have hS := h.alloc zero3
  have HZ : Hid (∀ w3, Kp (w.alloc zero3) w3 sb → (w3.cell? ⟨w.heap.size, 0, none⟩ = some (.int .i64 0) ∧ w3.cell? ⟨w.heap.size, 1, none⟩ = some (.string ⟨#[]⟩) ∧ w3.cell? ⟨w.heap.size, 2, none⟩ = some (.int .i64 0)) ∧
    (w3.frozen? ⟨w.heap.size, 0, none⟩ = false ∧ w3.frozen? ⟨w.heap.size, 1, none⟩ = false ∧ w3.frozen? ⟨w.heap.size, 2, none⟩ = false) ∧ w.heap.size < w3.heap.size) := Lib.hid fun w3 hk => resZ hlt hk
  have HE : Hid (∀ w3 a br v0 v1 v2, Src w3 sb rb l a br → Kp (w.alloc zero3) w3 sb → ((tok3 w3 w.heap.size v0 v1 v2).cell? ⟨w.heap.size, 0, none⟩ = some v0 ∧ (tok3 w3 w.heap.size v0 v1 v2).cell? ⟨w.heap.size, 1, none⟩ = some v1 ∧ (tok3 w3 w.heap.size v0 v1 v2).cell? ⟨w.heap.size, 2, none⟩ = some v2) ∧
    Src (tok3 w3 w.heap.size v0 v1 v2) sb rb l a br ∧ Kp w (tok3 w3 w.heap.size v0 v1 v2) sb) := Lib.hid fun w3 a br v0 v1 v2 hs hk => tokEnd hs hk hlt hrb v0 v1 v2
  clear h hG0 hAB
  go_enter Tryz.func27, Tryz.ntmps27
  have k1 := hS.c1
  unfold zero3 at HZ HE hG hS k1
  go_wp2_with fail
  generalize w.alloc (.cells #[.int .i64 0, .string ⟨#[]⟩, .int .i64 0] 57) = wA at *
  clear k1
  have HBA := Lib.hid (Below.refl wA.heap.size wA)
  refine wp_loop_rounds 6 ?_
  have r0 := hS.rd 0 (by decide)
  have r1 := hS.rd 1 (by decide)
  unfold fnV at r0 r1
  have hN := Rnd.new hS hG 46 47
  have hBN := (Below.refl _ wA).alloc (Nat.le_refl _) (fObj 46 47)
  clear hS hG
  unfold fObj at hN hBN
  rw [rounds_succ]
  go_wp2_with fail
  clear r0 r1
  generalize wA.alloc (.cells #[.func (Fn.func 46) #[] #[], .func (Fn.func 47) #[] #[]] 121) = wB0 at *
  have f0 := hN.c0
  have f1 := hN.c1
  have hltB := hN.lt
  have HR : Hid (∀ w1, Below wB0.heap.size wB0 w1 → Calls Tryz.prog 55 #[.pointer (some ⟨sb, 0, none⟩)] w1 fun e w' => e = .returned (.string (S (c :: r))) ∧ w' = w1.drew) := Lib.hid fun w1 hb => by
      have := rest_any w1 sb rb l at' br (hN.src.bel hb (Nat.le_refl _))
      rwa [hr] at this
  have HW : Hid (∀ w1, Below wB0.heap.size wB0 w1 → Calls Tryz.prog 46 #[.string (S (c :: r))] w1 fun e w' => e = .returned (.bool false) ∧ Below w1.heap.size w1 w') := Lib.hid fun w1 hb => by
      have := beginsWord_any (c :: r) (by rw [List.length_cons]; omega) w1 (hN.gl.bel' hb)
      rwa [List.headD_cons, hb0] at this
  have HN := Lib.hid hN
  have HBN := Lib.hid hBN
  clear hN hBN
  go_region_held3 (fun w' => w'.cell? ⟨wA.heap.size, 0, none⟩ = some (.func (Fn.func 46) #[] #[]) ∧ w'.cell? ⟨wA.heap.size, 1, none⟩ = some (.func (Fn.func 47) #[] #[]) ∧ Hid (Below wB0.heap.size wB0 w')) (first | assumption | exact heldF hltB hltB f0 f1 (Below.refl _ _).drew | exact heldF hltB hltB f0 f1 (heldFB (by assumption)).drew | exact heldF hltB hltB f0 f1 ((heldFB (by assumption)).trans (by assumption))) (first | (go_at_call 55; refine (HR.out _ (by first | exact (Below.refl _ _).drew | exact heldFB (by assumption))).mono ?_; rintro e w' ⟨rfl, rfl⟩) | (go_at_call 46; refine (HW.out _ (by first | exact (Below.refl _ _).drew.drew | exact heldFB (by assumption))).mono ?_; rintro e w90 ⟨rfl, hz0⟩))
  have hB9 := (Below.refl wB0.heap.size wB0).drew.drew.trans hz0
  have m1 := (hB9.cell (p := ⟨wA.heap.size, 1, none⟩) hltB).trans f1
  have hS := HN.out.src.bel hB9 (Nat.le_refl _)
  have hG := HN.out.gl.bel' hB9
  have HBA0 := Lib.hid (HBA.out.trans ((HBN.out.trans (hB9.mono HBN.out.size)).mono HBA.out.size))
  clear hB9 hz0 f0 f1 HN HBN HR HW hltB
  have r0 := hS.rd 2 (by decide)
  have r1 := hS.rd 3 (by decide)
  unfold fnV at r0 r1
  have hN := Rnd.new hS hG 48 49
  have hBN := (Below.refl _ w90).alloc (Nat.le_refl _) (fObj 48 49)
  clear hS hG
  unfold fObj at hN hBN
  go_wp2_with fail
  rw [rounds_succ]
  go_wp2_with fail
  clear r0 r1
  generalize w90.alloc (.cells #[.func (Fn.func 48) #[] #[], .func (Fn.func 49) #[] #[]] 121) = wB1 at *
  have f0 := hN.c0
  have f1 := hN.c1
  have hltB := hN.lt
  have HR : Hid (∀ w1, Below wB1.heap.size wB1 w1 → Calls Tryz.prog 55 #[.pointer (some ⟨sb, 0, none⟩)] w1 fun e w' => e = .returned (.string (S (c :: r))) ∧ w' = w1.drew) := Lib.hid fun w1 hb => by
      have := rest_any w1 sb rb l at' br (hN.src.bel hb (Nat.le_refl _))
      rwa [hr] at this
  have HW : Hid (∀ w1, Below wB1.heap.size wB1 w1 → Calls Tryz.prog 48 #[.string (S (c :: r))] w1 fun e w' => e = .returned (.bool true) ∧ Below w1.heap.size w1 w') := Lib.hid fun w1 hb => by
      have := beginsNumber_any (c :: r) (by rw [List.length_cons]; omega) w1 (hN.gl.bel' hb)
      rwa [hb1] at this
  have HN := Lib.hid hN
  have HBN := Lib.hid hBN
  clear hN hBN
  go_region_held3 (fun w' => w'.cell? ⟨w90.heap.size, 0, none⟩ = some (.func (Fn.func 48) #[] #[]) ∧ w'.cell? ⟨w90.heap.size, 1, none⟩ = some (.func (Fn.func 49) #[] #[]) ∧ Hid (Below wB1.heap.size wB1 w')) (first | assumption | exact heldF hltB hltB f0 f1 (Below.refl _ _).drew | exact heldF hltB hltB f0 f1 (heldFB (by assumption)).drew | exact heldF hltB hltB f0 f1 ((heldFB (by assumption)).trans (by assumption))) (first | (go_at_call 55; refine (HR.out _ (by first | exact (Below.refl _ _).drew | exact heldFB (by assumption))).mono ?_; rintro e w' ⟨rfl, rfl⟩) | (go_at_call 48; refine (HW.out _ (by first | exact (Below.refl _ _).drew.drew | exact heldFB (by assumption))).mono ?_; rintro e w91 ⟨rfl, hz1⟩))
  have hB9 := (Below.refl wB1.heap.size wB1).drew.drew.trans hz1
  have m1 := (hB9.cell (p := ⟨w90.heap.size, 1, none⟩) hltB).trans f1
  have hS := HN.out.src.bel hB9 (Nat.le_refl _)
  have hG := HN.out.gl.bel' hB9
  have HBA1 := Lib.hid (HBA0.out.trans ((HBN.out.trans (hB9.mono HBN.out.size)).mono HBA0.out.size))
  clear hB9 hz1 f0 f1 HN HBN HR HW hltB
  have HC : Hid (Calls Tryz.prog 49 #[.pointer (some ⟨sb, 0, none⟩)] w91 (QPost w91 sb rb l at' (tok (c :: r)))) := Lib.hid (by
    rw [tok_cons, if_neg (by rw [hb0]; decide), if_pos hnum]
    exact (srcNumber_any _ hG sb rb l at' br hS c r hr).mono fun e w' h => ⟨br, h.1, h.2.1, hBr.mono (by show at' ≤ at' + (numLen r + 1); omega), h.2.2⟩)
  clear hS hG
  generalize tok (c :: r) = q at *
  go_wp2_with fail
  go_at_call 49
  refine HC.out.mono ?_
  rintro e w6 ⟨br6, rfl, hs6, hbr6, hk6⟩
  obtain ⟨⟨z0, z1, z2⟩, ⟨g0, g1, g2⟩, e5⟩ := HZ.out w6 ((Kp.ofBelow HBA1.out (Nat.le_refl _)).trans hk6)
  have HE6 := Lib.hid (HE.out w6 _ _ (.int .i64 q.1) (.string (S q.2.1)) (.int .i64 at') hs6 ((Kp.ofBelow HBA1.out (Nat.le_refl _)).trans hk6))
  clear hs6 hk6
  unfold tokV
  go_wp2_with fail
  obtain ⟨⟨q0, q1, q2⟩, F⟩ := HE6.out
  unfold tok3 at q0 q1 q2 F
  refine bodyPost_ret (v := tokV q.1 q.2.1 at') ?_ rfl ⟨br6, rfl, F.1, hbr6, F.2⟩
  simp [results, Tryz.results27, go_sem, q0, q1, q2, tokV]
end Go.Proofs.YtdhdjfkknfbmhaaGreatDoor
