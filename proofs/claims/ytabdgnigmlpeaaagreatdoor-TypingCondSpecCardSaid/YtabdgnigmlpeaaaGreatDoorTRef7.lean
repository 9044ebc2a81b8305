/- The specification: a condition holds: all of, one of. -/
import Derived.Test.YtabdgnigmlpeaaaGreatDoorTRef6
namespace Go.Proofs.YtabdgnigmlpeaaaGreatDoor
open Go.RowKit

set_option maxHeartbeats 8000000 in
set_option maxRecDepth 100000 in
theorem rhold_2 (v n : Int) (ps : List Cd) (p : Option Addr) (b off cap : Nat) (P : Nat → Option Addr) (C : Nat → Nat) (hl : ps.length ≤ 3000000000000) (hlc : ps.length ≤ cap) (_ : cap ≤ 9223372036854775807) (hp : ps ≠ [] → p = some ⟨b, off, none⟩) (x : En) (W : World)
    (hcell : ∀ w', Below W.heap.size W w' → ∀ j (h : j < ps.length), w'.cell? ⟨b, off + j * 4, none⟩ = some (.int .i64 ps[j].k) ∧ w'.cell? ⟨b, off + j * 4 + 1, none⟩ = some (.int .i64 ps[j].v) ∧ w'.cell? ⟨b, off + j * 4 + 2, none⟩ = some (.int .i64 ps[j].n) ∧ w'.cell? ⟨b, off + j * 4 + 3, none⟩ = some (.slice (P j) ps[j].ps.length (C j)))
    (hcall : ∀ w', Below W.heap.size W w' → ∀ j (h : j < ps.length), Calls Tryz.prog 55 #[cV ps[j] (P j) (C j), envV x] w' fun e w2 => e = .returned (.bool (rHold x ps[j])) ∧ Below w'.heap.size w' w2) :
    Calls Tryz.prog 55 #[.agg #[.int .i64 2, .int .i64 v, .int .i64 n, .slice p ps.length cap], envV x] W fun e w' => e = .returned (.bool (rHoldA x ps)) ∧ Below W.heap.size W w' := by
  have hA := (Below.refl W.heap.size W).alloc (Nat.le_refl _) (.cells #[.int .i64 2, .int .i64 v, .int .i64 n, .slice p ps.length cap] 40)
  have hA2 := hA.alloc hA.size (.cells #[.int .i64 x.d, .int .i64 x.f, .int .i64 x.s] 42)
  have HA := Lib.hid hA2
  have HB0 := Lib.hid (Below.refl ((W.alloc (.cells #[.int .i64 2, .int .i64 v, .int .i64 n, .slice p ps.length cap] 40)).alloc (.cells #[.int .i64 x.d, .int .i64 x.f, .int .i64 x.s] 42)).heap.size ((W.alloc (.cells #[.int .i64 2, .int .i64 v, .int .i64 n, .slice p ps.length cap] 40)).alloc (.cells #[.int .i64 x.d, .int .i64 x.f, .int .i64 x.s] 42)))
  have HX : Hid (∀ w', Below ((W.alloc (.cells #[.int .i64 2, .int .i64 v, .int .i64 n, .slice p ps.length cap] 40)).alloc (.cells #[.int .i64 x.d, .int .i64 x.f, .int .i64 x.s] 42)).heap.size ((W.alloc (.cells #[.int .i64 2, .int .i64 v, .int .i64 n, .slice p ps.length cap] 40)).alloc (.cells #[.int .i64 x.d, .int .i64 x.f, .int .i64 x.s] 42)) w' → w'.cell? ⟨W.heap.size, 0, none⟩ = some (.int .i64 2) ∧ w'.cell? ⟨W.heap.size, 1, none⟩ = some (.int .i64 v) ∧ w'.cell? ⟨W.heap.size, 2, none⟩ = some (.int .i64 n) ∧ w'.cell? ⟨W.heap.size, 3, none⟩ = some (.slice p ps.length cap) ∧ w'.cell? ⟨W.heap.size + 1, 0, none⟩ = some (.int .i64 x.d) ∧ w'.cell? ⟨W.heap.size + 1, 1, none⟩ = some (.int .i64 x.f) ∧ w'.cell? ⟨W.heap.size + 1, 2, none⟩ = some (.int .i64 x.s)) := Lib.hid fun w' hb =>
    ⟨keepc hb (by simp [go_sem]), keepc hb (by simp [go_sem]), keepc hb (by simp [go_sem]), keepc hb (by simp [go_sem]), keepc hb (by simp [go_sem]), keepc hb (by simp [go_sem]), keepc hb (by simp [go_sem])⟩
  have HE : Hid (∀ w', Below W.heap.size W w' → ∀ j (h : j < ps.length), p = some ⟨b, off, none⟩ ∧ w'.cell? ⟨b, off + j * 4, none⟩ = some (.int .i64 ps[j].k) ∧ w'.cell? ⟨b, off + j * 4 + 1, none⟩ = some (.int .i64 ps[j].v) ∧ w'.cell? ⟨b, off + j * 4 + 2, none⟩ = some (.int .i64 ps[j].n) ∧ w'.cell? ⟨b, off + j * 4 + 3, none⟩ = some (.slice (P j) ps[j].ps.length (C j))) := Lib.hid fun w' hb j h => ⟨hp (by rintro rfl; simp at h), hcell w' hb j h⟩
  have HK := Lib.hid hcall
  obtain ⟨T, hT⟩ : ∃ T, rHoldA x ps = T := ⟨_, rfl⟩
  rw [hT]
  have H0 : Hid (rHoldA x (ps.drop 0) = T) := Lib.hid (by rw [List.drop_zero]; exact hT)
  clear hA hA2 hcell hcall hp hT
  unfold envV at *
  go_enter Tryz.func55, Tryz.ntmps55
  go_wp2_with fail
  generalize ((W.alloc (.cells #[.int .i64 2, .int .i64 v, .int .i64 n, .slice p ps.length cap] 40)).alloc (.cells #[.int .i64 x.d, .int .i64 x.f, .int .i64 x.s] 42)) = W2 at *
  go_loopw [5] (fun i wr => ∃ j : Nat, j ≤ ps.length ∧ i = .int .i64 j ∧ Hid (rHoldA x (ps.drop j) = T) ∧ Hid (Below W2.heap.size W2 wr)) (fun i _ => ps.length - (intOf i).toNat)
  case atStart => exact ⟨0, Nat.zero_le _, rfl, H0, HB0⟩
  case round =>
    obtain ⟨j, hj, rfl, HI, HB⟩ := hrel
    clear H0 HB0
    obtain ⟨y0, y1, y2, y3, y4, y5, y6⟩ := HX.out wr HB.out
    by_cases hlt : j < ps.length
    · have hji : (j : Int) < (ps.length : Int) := by omega
      have hW := HA.out.trans (HB.out.mono HA.out.size)
      obtain ⟨rfl, y7, y8, y9, y10⟩ := HE.out wr hW j hlt
      have HX2 : Hid (∀ w', Below wr.heap.size wr w' → w'.cell? ⟨W.heap.size, 0, none⟩ = some (.int .i64 2) ∧ w'.cell? ⟨W.heap.size, 1, none⟩ = some (.int .i64 v) ∧ w'.cell? ⟨W.heap.size, 2, none⟩ = some (.int .i64 n) ∧ w'.cell? ⟨W.heap.size, 3, none⟩ = some (.slice (some ⟨b, off, none⟩) ps.length cap) ∧ w'.cell? ⟨W.heap.size + 1, 0, none⟩ = some (.int .i64 x.d) ∧ w'.cell? ⟨W.heap.size + 1, 1, none⟩ = some (.int .i64 x.f) ∧ w'.cell? ⟨W.heap.size + 1, 2, none⟩ = some (.int .i64 x.s) ∧ w'.cell? ⟨b, off + j * 4, none⟩ = some (.int .i64 ps[j].k) ∧ w'.cell? ⟨b, off + j * 4 + 1, none⟩ = some (.int .i64 ps[j].v) ∧ w'.cell? ⟨b, off + j * 4 + 2, none⟩ = some (.int .i64 ps[j].n) ∧ w'.cell? ⟨b, off + j * 4 + 3, none⟩ = some (.slice (P j) ps[j].ps.length (C j)) ∧ Hid (Below wr.heap.size wr w')) := Lib.hid fun w' hb => by
        obtain ⟨z0, z1, z2, z3, z4, z5, z6⟩ := HX.out w' (HB.out.trans (hb.mono HB.out.size))
        obtain ⟨-, z7, z8, z9, z10⟩ := HE.out w' (hW.trans (hb.mono hW.size)) j hlt
        exact ⟨z0, z1, z2, z3, z4, z5, z6, z7, z8, z9, z10, Lib.hid hb⟩
      have HV : Hid (∀ w1 : World, Below wr.heap.size wr w1 → Calls Tryz.prog 55 #[.agg #[.int .i64 ps[j].k, .int .i64 ps[j].v, .int .i64 ps[j].n, .slice (P j) ps[j].ps.length (C j)], .agg #[.int .i64 x.d, .int .i64 x.f, .int .i64 x.s]] w1 fun e w' => e = .returned (.bool (rHold x ps[j])) ∧ Hid (Below wr.heap.size wr w')) := Lib.hid fun w1 hb => by
        have := HK.out w1 (hW.trans (hb.mono hW.size)) j hlt
        exact this.mono fun e w' hr => ⟨hr.1, Lib.hid (hb.trans (hr.2.mono hb.size))⟩
      have HS1 : Hid (rHold x ps[j] = true → rHoldA x (ps.drop (j + 1)) = T) := Lib.hid fun h => by
        have := HI.out
        rw [(List.getElem_cons_drop hlt).symm, rHoldA, h, Bool.true_and] at this
        exact this
      have HS2 : Hid (rHold x ps[j] = false → T = false) := Lib.hid fun h => by
        have := HI.out
        rw [(List.getElem_cons_drop hlt).symm, rHoldA, h, Bool.false_and] at this
        exact this.symm
      clear HX HE HK HI hW
      generalize rHold x ps[j] = q at *
      generalize ps[j].k = x1 at *
      generalize ps[j].v = x2 at *
      generalize ps[j].n = x3 at *
      generalize ps[j].ps.length = l1 at *
      generalize P j = q1 at *
      generalize C j = c1 at *
      generalize hln : ps.length = ln at *
      cases q
      all_goals
        first
          | (have HI2 := Lib.hid (HS1.out rfl); clear HS1 HS2)
          | (obtain rfl := HS2.out rfl; clear HS1 HS2)
        go_wp2_with fail
        go_region_held3 (fun w' => w'.cell? ⟨W.heap.size, 0, none⟩ = some (.int .i64 2) ∧ w'.cell? ⟨W.heap.size, 1, none⟩ = some (.int .i64 v) ∧ w'.cell? ⟨W.heap.size, 2, none⟩ = some (.int .i64 n) ∧ w'.cell? ⟨W.heap.size, 3, none⟩ = some (.slice (some ⟨b, off, none⟩) ln cap) ∧ w'.cell? ⟨W.heap.size + 1, 0, none⟩ = some (.int .i64 x.d) ∧ w'.cell? ⟨W.heap.size + 1, 1, none⟩ = some (.int .i64 x.f) ∧ w'.cell? ⟨W.heap.size + 1, 2, none⟩ = some (.int .i64 x.s) ∧ w'.cell? ⟨b, off + j * 4, none⟩ = some (.int .i64 x1) ∧ w'.cell? ⟨b, off + j * 4 + 1, none⟩ = some (.int .i64 x2) ∧ w'.cell? ⟨b, off + j * 4 + 2, none⟩ = some (.int .i64 x3) ∧ w'.cell? ⟨b, off + j * 4 + 3, none⟩ = some (.slice q1 l1 c1) ∧ Hid (Below wr.heap.size wr w'))
          (first
            | with_reducible exact HX2.out _ (Below.refl _ _).drew
            | with_reducible exact HX2.out _ (Below.refl _ _)
            | with_reducible exact HX2.out _ hb1.out
            | assumption | go_keep)
          ((go_at_call 55; with_reducible refine (HV.out _ (held11 (W := wr) (by assumption))).mono ?_; rintro e w' ⟨rfl, hb1⟩))
        all_goals
          go_wp2_with fail
          first
            | (go_ret; exact ⟨rfl, HA.out.trans ((HB.out.trans (hb1.out.mono HB.out.size)).mono HA.out.size)⟩)
            | (go_roundw
               case rel => exact ⟨j + 1, by omega, by go_num, HI2, Lib.hid (HB.out.trans (hb1.out.mono HB.out.size))⟩
               case measure => simp [intOf]; omega)
    · have hji : ¬ (j : Int) < (ps.length : Int) := by omega
      have hT : T = true := by
        have := HI.out
        rw [List.drop_of_length_le (by omega), rHoldA] at this
        exact this.symm
      subst hT
      clear HX HE HK HI
      go_wp2_with fail
      go_ret
      exact ⟨rfl, HA.out.trans (HB.out.mono HA.out.size)⟩

set_option maxHeartbeats 8000000 in
set_option maxRecDepth 100000 in
theorem rhold_3 (v n : Int) (ps : List Cd) (p : Option Addr) (b off cap : Nat) (P : Nat → Option Addr) (C : Nat → Nat) (hl : ps.length ≤ 3000000000000) (hlc : ps.length ≤ cap) (_ : cap ≤ 9223372036854775807) (hp : ps ≠ [] → p = some ⟨b, off, none⟩) (x : En) (W : World)
    (hcell : ∀ w', Below W.heap.size W w' → ∀ j (h : j < ps.length), w'.cell? ⟨b, off + j * 4, none⟩ = some (.int .i64 ps[j].k) ∧ w'.cell? ⟨b, off + j * 4 + 1, none⟩ = some (.int .i64 ps[j].v) ∧ w'.cell? ⟨b, off + j * 4 + 2, none⟩ = some (.int .i64 ps[j].n) ∧ w'.cell? ⟨b, off + j * 4 + 3, none⟩ = some (.slice (P j) ps[j].ps.length (C j)))
    (hcall : ∀ w', Below W.heap.size W w' → ∀ j (h : j < ps.length), Calls Tryz.prog 55 #[cV ps[j] (P j) (C j), envV x] w' fun e w2 => e = .returned (.bool (rHold x ps[j])) ∧ Below w'.heap.size w' w2) :
    Calls Tryz.prog 55 #[.agg #[.int .i64 3, .int .i64 v, .int .i64 n, .slice p ps.length cap], envV x] W fun e w' => e = .returned (.bool (rHoldO x ps)) ∧ Below W.heap.size W w' := by
  have hA := (Below.refl W.heap.size W).alloc (Nat.le_refl _) (.cells #[.int .i64 3, .int .i64 v, .int .i64 n, .slice p ps.length cap] 40)
  have hA2 := hA.alloc hA.size (.cells #[.int .i64 x.d, .int .i64 x.f, .int .i64 x.s] 42)
  have HA := Lib.hid hA2
  have HB0 := Lib.hid (Below.refl ((W.alloc (.cells #[.int .i64 3, .int .i64 v, .int .i64 n, .slice p ps.length cap] 40)).alloc (.cells #[.int .i64 x.d, .int .i64 x.f, .int .i64 x.s] 42)).heap.size ((W.alloc (.cells #[.int .i64 3, .int .i64 v, .int .i64 n, .slice p ps.length cap] 40)).alloc (.cells #[.int .i64 x.d, .int .i64 x.f, .int .i64 x.s] 42)))
  have HX : Hid (∀ w', Below ((W.alloc (.cells #[.int .i64 3, .int .i64 v, .int .i64 n, .slice p ps.length cap] 40)).alloc (.cells #[.int .i64 x.d, .int .i64 x.f, .int .i64 x.s] 42)).heap.size ((W.alloc (.cells #[.int .i64 3, .int .i64 v, .int .i64 n, .slice p ps.length cap] 40)).alloc (.cells #[.int .i64 x.d, .int .i64 x.f, .int .i64 x.s] 42)) w' → w'.cell? ⟨W.heap.size, 0, none⟩ = some (.int .i64 3) ∧ w'.cell? ⟨W.heap.size, 1, none⟩ = some (.int .i64 v) ∧ w'.cell? ⟨W.heap.size, 2, none⟩ = some (.int .i64 n) ∧ w'.cell? ⟨W.heap.size, 3, none⟩ = some (.slice p ps.length cap) ∧ w'.cell? ⟨W.heap.size + 1, 0, none⟩ = some (.int .i64 x.d) ∧ w'.cell? ⟨W.heap.size + 1, 1, none⟩ = some (.int .i64 x.f) ∧ w'.cell? ⟨W.heap.size + 1, 2, none⟩ = some (.int .i64 x.s)) := Lib.hid fun w' hb =>
    ⟨keepc hb (by simp [go_sem]), keepc hb (by simp [go_sem]), keepc hb (by simp [go_sem]), keepc hb (by simp [go_sem]), keepc hb (by simp [go_sem]), keepc hb (by simp [go_sem]), keepc hb (by simp [go_sem])⟩
  have HE : Hid (∀ w', Below W.heap.size W w' → ∀ j (h : j < ps.length), p = some ⟨b, off, none⟩ ∧ w'.cell? ⟨b, off + j * 4, none⟩ = some (.int .i64 ps[j].k) ∧ w'.cell? ⟨b, off + j * 4 + 1, none⟩ = some (.int .i64 ps[j].v) ∧ w'.cell? ⟨b, off + j * 4 + 2, none⟩ = some (.int .i64 ps[j].n) ∧ w'.cell? ⟨b, off + j * 4 + 3, none⟩ = some (.slice (P j) ps[j].ps.length (C j))) := Lib.hid fun w' hb j h => ⟨hp (by rintro rfl; simp at h), hcell w' hb j h⟩
  have HK := Lib.hid hcall
  obtain ⟨T, hT⟩ : ∃ T, rHoldO x ps = T := ⟨_, rfl⟩
  rw [hT]
  have H0 : Hid (rHoldO x (ps.drop 0) = T) := Lib.hid (by rw [List.drop_zero]; exact hT)
  clear hA hA2 hcell hcall hp hT
  unfold envV at *
  go_enter Tryz.func55, Tryz.ntmps55
  go_wp2_with fail
  generalize ((W.alloc (.cells #[.int .i64 3, .int .i64 v, .int .i64 n, .slice p ps.length cap] 40)).alloc (.cells #[.int .i64 x.d, .int .i64 x.f, .int .i64 x.s] 42)) = W2 at *
  go_loopw [5] (fun i wr => ∃ j : Nat, j ≤ ps.length ∧ i = .int .i64 j ∧ Hid (rHoldO x (ps.drop j) = T) ∧ Hid (Below W2.heap.size W2 wr)) (fun i _ => ps.length - (intOf i).toNat)
  case atStart => exact ⟨0, Nat.zero_le _, rfl, H0, HB0⟩
  case round =>
    obtain ⟨j, hj, rfl, HI, HB⟩ := hrel
    clear H0 HB0
    obtain ⟨y0, y1, y2, y3, y4, y5, y6⟩ := HX.out wr HB.out
    by_cases hlt : j < ps.length
    · have hji : (j : Int) < (ps.length : Int) := by omega
      have hW := HA.out.trans (HB.out.mono HA.out.size)
      obtain ⟨rfl, y7, y8, y9, y10⟩ := HE.out wr hW j hlt
      have HX2 : Hid (∀ w', Below wr.heap.size wr w' → w'.cell? ⟨W.heap.size, 0, none⟩ = some (.int .i64 3) ∧ w'.cell? ⟨W.heap.size, 1, none⟩ = some (.int .i64 v) ∧ w'.cell? ⟨W.heap.size, 2, none⟩ = some (.int .i64 n) ∧ w'.cell? ⟨W.heap.size, 3, none⟩ = some (.slice (some ⟨b, off, none⟩) ps.length cap) ∧ w'.cell? ⟨W.heap.size + 1, 0, none⟩ = some (.int .i64 x.d) ∧ w'.cell? ⟨W.heap.size + 1, 1, none⟩ = some (.int .i64 x.f) ∧ w'.cell? ⟨W.heap.size + 1, 2, none⟩ = some (.int .i64 x.s) ∧ w'.cell? ⟨b, off + j * 4, none⟩ = some (.int .i64 ps[j].k) ∧ w'.cell? ⟨b, off + j * 4 + 1, none⟩ = some (.int .i64 ps[j].v) ∧ w'.cell? ⟨b, off + j * 4 + 2, none⟩ = some (.int .i64 ps[j].n) ∧ w'.cell? ⟨b, off + j * 4 + 3, none⟩ = some (.slice (P j) ps[j].ps.length (C j)) ∧ Hid (Below wr.heap.size wr w')) := Lib.hid fun w' hb => by
        obtain ⟨z0, z1, z2, z3, z4, z5, z6⟩ := HX.out w' (HB.out.trans (hb.mono HB.out.size))
        obtain ⟨-, z7, z8, z9, z10⟩ := HE.out w' (hW.trans (hb.mono hW.size)) j hlt
        exact ⟨z0, z1, z2, z3, z4, z5, z6, z7, z8, z9, z10, Lib.hid hb⟩
      have HV : Hid (∀ w1 : World, Below wr.heap.size wr w1 → Calls Tryz.prog 55 #[.agg #[.int .i64 ps[j].k, .int .i64 ps[j].v, .int .i64 ps[j].n, .slice (P j) ps[j].ps.length (C j)], .agg #[.int .i64 x.d, .int .i64 x.f, .int .i64 x.s]] w1 fun e w' => e = .returned (.bool (rHold x ps[j])) ∧ Hid (Below wr.heap.size wr w')) := Lib.hid fun w1 hb => by
        have := HK.out w1 (hW.trans (hb.mono hW.size)) j hlt
        exact this.mono fun e w' hr => ⟨hr.1, Lib.hid (hb.trans (hr.2.mono hb.size))⟩
      have HS1 : Hid (rHold x ps[j] = false → rHoldO x (ps.drop (j + 1)) = T) := Lib.hid fun h => by
        have := HI.out
        rw [(List.getElem_cons_drop hlt).symm, rHoldO, h, Bool.false_or] at this
        exact this
      have HS2 : Hid (rHold x ps[j] = true → T = true) := Lib.hid fun h => by
        have := HI.out
        rw [(List.getElem_cons_drop hlt).symm, rHoldO, h, Bool.true_or] at this
        exact this.symm
      clear HX HE HK HI hW
      generalize rHold x ps[j] = q at *
      generalize ps[j].k = x1 at *
      generalize ps[j].v = x2 at *
      generalize ps[j].n = x3 at *
      generalize ps[j].ps.length = l1 at *
      generalize P j = q1 at *
      generalize C j = c1 at *
      generalize hln : ps.length = ln at *
      cases q
      all_goals
        first
          | (have HI2 := Lib.hid (HS1.out rfl); clear HS1 HS2)
          | (obtain rfl := HS2.out rfl; clear HS1 HS2)
        go_wp2_with fail
        go_region_held3 (fun w' => w'.cell? ⟨W.heap.size, 0, none⟩ = some (.int .i64 3) ∧ w'.cell? ⟨W.heap.size, 1, none⟩ = some (.int .i64 v) ∧ w'.cell? ⟨W.heap.size, 2, none⟩ = some (.int .i64 n) ∧ w'.cell? ⟨W.heap.size, 3, none⟩ = some (.slice (some ⟨b, off, none⟩) ln cap) ∧ w'.cell? ⟨W.heap.size + 1, 0, none⟩ = some (.int .i64 x.d) ∧ w'.cell? ⟨W.heap.size + 1, 1, none⟩ = some (.int .i64 x.f) ∧ w'.cell? ⟨W.heap.size + 1, 2, none⟩ = some (.int .i64 x.s) ∧ w'.cell? ⟨b, off + j * 4, none⟩ = some (.int .i64 x1) ∧ w'.cell? ⟨b, off + j * 4 + 1, none⟩ = some (.int .i64 x2) ∧ w'.cell? ⟨b, off + j * 4 + 2, none⟩ = some (.int .i64 x3) ∧ w'.cell? ⟨b, off + j * 4 + 3, none⟩ = some (.slice q1 l1 c1) ∧ Hid (Below wr.heap.size wr w'))
          (first
            | with_reducible exact HX2.out _ (Below.refl _ _).drew
            | with_reducible exact HX2.out _ (Below.refl _ _)
            | with_reducible exact HX2.out _ hb1.out
            | assumption | go_keep)
          ((go_at_call 55; with_reducible refine (HV.out _ (held11 (W := wr) (by assumption))).mono ?_; rintro e w' ⟨rfl, hb1⟩))
        all_goals
          go_wp2_with fail
          first
            | (go_ret; exact ⟨rfl, HA.out.trans ((HB.out.trans (hb1.out.mono HB.out.size)).mono HA.out.size)⟩)
            | (go_roundw
               case rel => exact ⟨j + 1, by omega, by go_num, HI2, Lib.hid (HB.out.trans (hb1.out.mono HB.out.size))⟩
               case measure => simp [intOf]; omega)
    · have hji : ¬ (j : Int) < (ps.length : Int) := by omega
      have hT : T = false := by
        have := HI.out
        rw [List.drop_of_length_le (by omega), rHoldO] at this
        exact this.symm
      subst hT
      clear HX HE HK HI
      go_wp2_with fail
      go_ret
      exact ⟨rfl, HA.out.trans (HB.out.mono HA.out.size)⟩
end Go.Proofs.YtabdgnigmlpeaaaGreatDoor
