/- The specification: a condition holds: all of, one of. -/
import Derived.Test.YtabdgnigmlpeaaaGreatDoorTRef6
import Derived.Test.YtabdgnigmlpeaaaGreatDoorTApp2
import Derived.Deep.AppendLies
import Derived.Deep.RegionLaw
import Derived.Laws.AppendOwnNone
namespace Go.Proofs.YtabdgnigmlpeaaaGreatDoor
open Go.RowKit

set_option maxHeartbeats 8000000 in
set_option maxRecDepth 100000 in
theorem rhold_2 (v n : Int) (ps : List Cd) (p : Option Addr) (b off cap : Nat) (P : Nat → Option Addr) (C : Nat → Nat) (hl : ps.length ≤ 3000000000000) (hlc : ps.length ≤ cap) (_ : cap ≤ 9223372036854775807) (hp : ps ≠ [] → p = some ⟨b, off, none⟩) (x : En) (W : World)
    (hcell : ∀ w', Below W.heap.size W w' → ∀ j (h : j < ps.length), w'.cell? ⟨b, off + j * 4, none⟩ = some (.int .i64 ps[j].k) ∧ w'.cell? ⟨b, off + j * 4 + 1, none⟩ = some (.int .i64 ps[j].v) ∧ w'.cell? ⟨b, off + j * 4 + 2, none⟩ = some (.int .i64 ps[j].n) ∧ w'.cell? ⟨b, off + j * 4 + 3, none⟩ = some (.slice (P j) ps[j].ps.length (C j)))
    (hcall : ∀ w', Below W.heap.size W w' → ∀ j (h : j < ps.length), Calls Tryz.prog 55 #[cV ps[j] (P j) (C j), envV x] w' fun e w2 => e = .returned (.bool (rHold x ps[j])) ∧ Below w'.heap.size w' w2) :
    Calls Tryz.prog 55 #[.agg #[.int .i64 2, .int .i64 v, .int .i64 n, .slice p ps.length cap], envV x] W fun e w' => e = .returned (.bool (rHoldA x ps)) ∧ Below W.heap.size W w' := by
  have hA := (Below.refl W.heap.size W).alloc (Nat.le_refl _) (.cells #[.int .i64 2, .int .i64 v, .int .i64 n, .slice p ps.length cap] 40)
  have hA2 := hA.alloc hA.size (.cells #[.int .i64 x.d, .int .i64 x.f, .int .i64 x.s] 42)
  have HA := Lib.hid hA2
  have HB0 := Lib.hid (Below.refl ((W.alloc (.cells #[.int .i64 2, .int .i64 v, .int .i64 n, .slice p ps.length cap] 40)).alloc (.cells #[.int .i64 x.d, .int .i64 x.f, .int .i64 x.s] 42)).heap.size ((W.alloc (.cells #[.int .i64 2, .int .i64 v, .int .i64 n, .slice p ps.length cap] 40)).alloc (.cells #[.int .i64 x.d, .int .i64 x.f, .int .i64 x.s] 42)))
  have HX : Hid (∀ w', Below ((W.alloc (.cells #[.int .i64 2, .int .i64 v, .int .i64 n, .slice p ps.length cap] 40)).alloc (.cells #[.int .i64 x.d, .int .i64 x.f, .int .i64 x.s] 42)).heap.size ((W.alloc (.cells #[.int .i64 2, .int .i64 v, .int .i64 n, .slice p ps.length cap] 40)).alloc (.cells #[.int .i64 x.d, .int .i64 x.f, .int .i64 x.s] 42)) w' → w'.cell? ⟨W.heap.size, 0, none⟩ = some (.int .i64 2) ∧ w'.cell? ⟨W.heap.size, 1, none⟩ = some (.int .i64 v) ∧ w'.cell? ⟨W.heap.size, 2, none⟩ = some (.int .i64 n) ∧ w'.cell? ⟨W.heap.size, 3, none⟩ = some (.slice p ps.length cap) ∧ w'.cell? ⟨W.heap.size + 1, 0, none⟩ = some (.int .i64 x.d) ∧ w'.cell? ⟨W.heap.size + 1, 1, none⟩ = some (.int .i64 x.f) ∧ w'.cell? ⟨W.heap.size + 1, 2, none⟩ = some (.int .i64 x.s)) := Lib.hid fun w' hb =>
    ⟨keepc hb (by simp [go_sem]), keepc hb (by simp [go_sem]), keepc hb (by simp [go_sem]), keepc hb (by simp [go_sem]), keepc hb (by simp [go_sem]), keepc hb (by simp [go_sem]), keepc hb (by simp [go_sem])⟩
  have HE : Hid (∀ w', Below W.heap.size W w' → ∀ j (h : j < ps.length), p = some ⟨b, off, none⟩ ∧ w'.cell? ⟨b, off + j * 4, none⟩ = some (.int .i64 ps[j].k) ∧ w'.cell? ⟨b, off + j * 4 + 1, none⟩ = some (.int .i64 ps[j].v) ∧ w'.cell? ⟨b, off + j * 4 + 2, none⟩ = some (.int .i64 ps[j].n) ∧ w'.cell? ⟨b, off + j * 4 + 3, none⟩ = some (.slice (P j) ps[j].ps.length (C j))) := Lib.hid fun w' hb j h => ⟨hp (by rintro rfl; simp at h), hcell w' hb j h⟩
  have HK := Lib.hid hcall
  obtain ⟨T, hT⟩ : ∃ T, rHoldA x ps = T := ⟨_, rfl⟩
  rw [hT]
  have H0 : Hid (rHoldA x (ps.drop 0) = T) := Lib.hid (by rw [List.drop_zero]; exact hT)
  clear hA hA2 hcell hcall hp hT
  unfold envV at *
  go_enter Tryz.func55, Tryz.ntmps55
  go_wp2_with fail
  generalize ((W.alloc (.cells #[.int .i64 2, .int .i64 v, .int .i64 n, .slice p ps.length cap] 40)).alloc (.cells #[.int .i64 x.d, .int .i64 x.f, .int .i64 x.s] 42)) = W2 at *
  go_loopw [5] (fun i wr => ∃ j : Nat, j ≤ ps.length ∧ i = .int .i64 j ∧ Hid (rHoldA x (ps.drop j) = T) ∧ Hid (Below W2.heap.size W2 wr)) (fun i _ => ps.length - (intOf i).toNat)
  case atStart => exact ⟨0, Nat.zero_le _, rfl, H0, HB0⟩
  case round =>
    obtain ⟨j, hj, rfl, HI, HB⟩ := hrel
    clear H0 HB0
    obtain ⟨y0, y1, y2, y3, y4, y5, y6⟩ := HX.out wr HB.out
    by_cases hlt : j < ps.length
    · have hji : (j : Int) < (ps.length : Int) := by omega
      have hW := HA.out.trans (HB.out.mono HA.out.size)
      obtain ⟨rfl, y7, y8, y9, y10⟩ := HE.out wr hW j hlt
      have HX2 : Hid (∀ w', Below wr.heap.size wr w' → w'.cell? ⟨W.heap.size, 0, none⟩ = some (.int .i64 2) ∧ w'.cell? ⟨W.heap.size, 1, none⟩ = some (.int .i64 v) ∧ w'.cell? ⟨W.heap.size, 2, none⟩ = some (.int .i64 n) ∧ w'.cell? ⟨W.heap.size, 3, none⟩ = some (.slice (some ⟨b, off, none⟩) ps.length cap) ∧ w'.cell? ⟨W.heap.size + 1, 0, none⟩ = some (.int .i64 x.d) ∧ w'.cell? ⟨W.heap.size + 1, 1, none⟩ = some (.int .i64 x.f) ∧ w'.cell? ⟨W.heap.size + 1, 2, none⟩ = some (.int .i64 x.s) ∧ w'.cell? ⟨b, off + j * 4, none⟩ = some (.int .i64 ps[j].k) ∧ w'.cell? ⟨b, off + j * 4 + 1, none⟩ = some (.int .i64 ps[j].v) ∧ w'.cell? ⟨b, off + j * 4 + 2, none⟩ = some (.int .i64 ps[j].n) ∧ w'.cell? ⟨b, off + j * 4 + 3, none⟩ = some (.slice (P j) ps[j].ps.length (C j)) ∧ Hid (Below wr.heap.size wr w')) := Lib.hid fun w' hb => by
        obtain ⟨z0, z1, z2, z3, z4, z5, z6⟩ := HX.out w' (HB.out.trans (hb.mono HB.out.size))
        obtain ⟨-, z7, z8, z9, z10⟩ := HE.out w' (hW.trans (hb.mono hW.size)) j hlt
        exact ⟨z0, z1, z2, z3, z4, z5, z6, z7, z8, z9, z10, Lib.hid hb⟩
      have HV : Hid (∀ w1 : World, Below wr.heap.size wr w1 → Calls Tryz.prog 55 #[.agg #[.int .i64 ps[j].k, .int .i64 ps[j].v, .int .i64 ps[j].n, .slice (P j) ps[j].ps.length (C j)], .agg #[.int .i64 x.d, .int .i64 x.f, .int .i64 x.s]] w1 fun e w' => e = .returned (.bool (rHold x ps[j])) ∧ Hid (Below wr.heap.size wr w')) := Lib.hid fun w1 hb => by
        have := HK.out w1 (hW.trans (hb.mono hW.size)) j hlt
        exact this.mono fun e w' hr => ⟨hr.1, Lib.hid (hb.trans (hr.2.mono hb.size))⟩
      have HS1 : Hid (rHold x ps[j] = true → rHoldA x (ps.drop (j + 1)) = T) := Lib.hid fun h => by
        have := HI.out
        rw [(List.getElem_cons_drop hlt).symm, rHoldA, h, Bool.true_and] at this
        exact this
      have HS2 : Hid (rHold x ps[j] = false → T = false) := Lib.hid fun h => by
        have := HI.out
        rw [(List.getElem_cons_drop hlt).symm, rHoldA, h, Bool.false_and] at this
        exact this.symm
      clear HX HE HK HI hW
      generalize rHold x ps[j] = q at *
      generalize ps[j].k = x1 at *
      generalize ps[j].v = x2 at *
      generalize ps[j].n = x3 at *
      generalize ps[j].ps.length = l1 at *
      generalize P j = q1 at *
      generalize C j = c1 at *
      generalize hln : ps.length = ln at *
      cases q
      all_goals
        first
          | (have HI2 := Lib.hid (HS1.out rfl); clear HS1 HS2)
          | (obtain rfl := HS2.out rfl; clear HS1 HS2)
        go_wp2_with fail
        go_region_held3 (fun w' => w'.cell? ⟨W.heap.size, 0, none⟩ = some (.int .i64 2) ∧ w'.cell? ⟨W.heap.size, 1, none⟩ = some (.int .i64 v) ∧ w'.cell? ⟨W.heap.size, 2, none⟩ = some (.int .i64 n) ∧ w'.cell? ⟨W.heap.size, 3, none⟩ = some (.slice (some ⟨b, off, none⟩) ln cap) ∧ w'.cell? ⟨W.heap.size + 1, 0, none⟩ = some (.int .i64 x.d) ∧ w'.cell? ⟨W.heap.size + 1, 1, none⟩ = some (.int .i64 x.f) ∧ w'.cell? ⟨W.heap.size + 1, 2, none⟩ = some (.int .i64 x.s) ∧ w'.cell? ⟨b, off + j * 4, none⟩ = some (.int .i64 x1) ∧ w'.cell? ⟨b, off + j * 4 + 1, none⟩ = some (.int .i64 x2) ∧ w'.cell? ⟨b, off + j * 4 + 2, none⟩ = some (.int .i64 x3) ∧ w'.cell? ⟨b, off + j * 4 + 3, none⟩ = some (.slice q1 l1 c1) ∧ Hid (Below wr.heap.size wr w'))
          (first
            | with_reducible exact HX2.out _ (Below.refl _ _).drew
            | with_reducible exact HX2.out _ (Below.refl _ _)
            | with_reducible exact HX2.out _ hb1.out
            | assumption | go_keep)
          ((go_at_call 55; with_reducible refine (HV.out _ (held11 (W := wr) (by assumption))).mono ?_; rintro e w' ⟨rfl, hb1⟩))
        all_goals
          go_wp2_with fail
          first
            | (go_ret; exact ⟨rfl, HA.out.trans ((HB.out.trans (hb1.out.mono HB.out.size)).mono HA.out.size)⟩)
            | (go_roundw
               case rel => exact ⟨j + 1, by omega, by go_num, HI2, Lib.hid (HB.out.trans (hb1.out.mono HB.out.size))⟩
               case measure => simp [intOf]; omega)
    · have hji : ¬ (j : Int) < (ps.length : Int) := by omega
      have hT : T = true := by
        have := HI.out
        rw [List.drop_of_length_le (by omega), rHoldA] at this
        exact this.symm
      subst hT
      clear HX HE HK HI
      go_wp2_with fail
      go_ret
      exact ⟨rfl, HA.out.trans (HB.out.mono HA.out.size)⟩

set_option maxHeartbeats 8000000 in
set_option maxRecDepth 100000 in
theorem rhold_3 (v n : Int) (ps : List Cd) (p : Option Addr) (b off cap : Nat) (P : Nat → Option Addr) (C : Nat → Nat) (hl : ps.length ≤ 3000000000000) (hlc : ps.length ≤ cap) (_ : cap ≤ 9223372036854775807) (hp : ps ≠ [] → p = some ⟨b, off, none⟩) (x : En) (W : World)
    (hcell : ∀ w', Below W.heap.size W w' → ∀ j (h : j < ps.length), w'.cell? ⟨b, off + j * 4, none⟩ = some (.int .i64 ps[j].k) ∧ w'.cell? ⟨b, off + j * 4 + 1, none⟩ = some (.int .i64 ps[j].v) ∧ w'.cell? ⟨b, off + j * 4 + 2, none⟩ = some (.int .i64 ps[j].n) ∧ w'.cell? ⟨b, off + j * 4 + 3, none⟩ = some (.slice (P j) ps[j].ps.length (C j)))
    (hcall : ∀ w', Below W.heap.size W w' → ∀ j (h : j < ps.length), Calls Tryz.prog 55 #[cV ps[j] (P j) (C j), envV x] w' fun e w2 => e = .returned (.bool (rHold x ps[j])) ∧ Below w'.heap.size w' w2) :
    Calls Tryz.prog 55 #[.agg #[.int .i64 3, .int .i64 v, .int .i64 n, .slice p ps.length cap], envV x] W fun e w' => e = .returned (.bool (rHoldO x ps)) ∧ Below W.heap.size W w' := by
  have hA := (Below.refl W.heap.size W).alloc (Nat.le_refl _) (.cells #[.int .i64 3, .int .i64 v, .int .i64 n, .slice p ps.length cap] 40)
  have hA2 := hA.alloc hA.size (.cells #[.int .i64 x.d, .int .i64 x.f, .int .i64 x.s] 42)
  have HA := Lib.hid hA2
  have HB0 := Lib.hid (Below.refl ((W.alloc (.cells #[.int .i64 3, .int .i64 v, .int .i64 n, .slice p ps.length cap] 40)).alloc (.cells #[.int .i64 x.d, .int .i64 x.f, .int .i64 x.s] 42)).heap.size ((W.alloc (.cells #[.int .i64 3, .int .i64 v, .int .i64 n, .slice p ps.length cap] 40)).alloc (.cells #[.int .i64 x.d, .int .i64 x.f, .int .i64 x.s] 42)))
  have HX : Hid (∀ w', Below ((W.alloc (.cells #[.int .i64 3, .int .i64 v, .int .i64 n, .slice p ps.length cap] 40)).alloc (.cells #[.int .i64 x.d, .int .i64 x.f, .int .i64 x.s] 42)).heap.size ((W.alloc (.cells #[.int .i64 3, .int .i64 v, .int .i64 n, .slice p ps.length cap] 40)).alloc (.cells #[.int .i64 x.d, .int .i64 x.f, .int .i64 x.s] 42)) w' → w'.cell? ⟨W.heap.size, 0, none⟩ = some (.int .i64 3) ∧ w'.cell? ⟨W.heap.size, 1, none⟩ = some (.int .i64 v) ∧ w'.cell? ⟨W.heap.size, 2, none⟩ = some (.int .i64 n) ∧ w'.cell? ⟨W.heap.size, 3, none⟩ = some (.slice p ps.length cap) ∧ w'.cell? ⟨W.heap.size + 1, 0, none⟩ = some (.int .i64 x.d) ∧ w'.cell? ⟨W.heap.size + 1, 1, none⟩ = some (.int .i64 x.f) ∧ w'.cell? ⟨W.heap.size + 1, 2, none⟩ = some (.int .i64 x.s)) := Lib.hid fun w' hb =>
    ⟨keepc hb (by simp [go_sem]), keepc hb (by simp [go_sem]), keepc hb (by simp [go_sem]), keepc hb (by simp [go_sem]), keepc hb (by simp [go_sem]), keepc hb (by simp [go_sem]), keepc hb (by simp [go_sem])⟩
  have HE : Hid (∀ w', Below W.heap.size W w' → ∀ j (h : j < ps.length), p = some ⟨b, off, none⟩ ∧ w'.cell? ⟨b, off + j * 4, none⟩ = some (.int .i64 ps[j].k) ∧ w'.cell? ⟨b, off + j * 4 + 1, none⟩ = some (.int .i64 ps[j].v) ∧ w'.cell? ⟨b, off + j * 4 + 2, none⟩ = some (.int .i64 ps[j].n) ∧ w'.cell? ⟨b, off + j * 4 + 3, none⟩ = some (.slice (P j) ps[j].ps.length (C j))) := Lib.hid fun w' hb j h => ⟨hp (by rintro rfl; simp at h), hcell w' hb j h⟩
  have HK := Lib.hid hcall
  obtain ⟨T, hT⟩ : ∃ T, rHoldO x ps = T := ⟨_, rfl⟩
  rw [hT]
  have H0 : Hid (rHoldO x (ps.drop 0) = T) := Lib.hid (by rw [List.drop_zero]; exact hT)
  clear hA hA2 hcell hcall hp hT
  unfold envV at *
  go_enter Tryz.func55, Tryz.ntmps55
  go_wp2_with fail
  generalize ((W.alloc (.cells #[.int .i64 3, .int .i64 v, .int .i64 n, .slice p ps.length cap] 40)).alloc (.cells #[.int .i64 x.d, .int .i64 x.f, .int .i64 x.s] 42)) = W2 at *
  go_loopw [5] (fun i wr => ∃ j : Nat, j ≤ ps.length ∧ i = .int .i64 j ∧ Hid (rHoldO x (ps.drop j) = T) ∧ Hid (Below W2.heap.size W2 wr)) (fun i _ => ps.length - (intOf i).toNat)
  case atStart => exact ⟨0, Nat.zero_le _, rfl, H0, HB0⟩
  case round =>
    obtain ⟨j, hj, rfl, HI, HB⟩ := hrel
    clear H0 HB0
    obtain ⟨y0, y1, y2, y3, y4, y5, y6⟩ := HX.out wr HB.out
    by_cases hlt : j < ps.length
    · have hji : (j : Int) < (ps.length : Int) := by omega
      have hW := HA.out.trans (HB.out.mono HA.out.size)
      obtain ⟨rfl, y7, y8, y9, y10⟩ := HE.out wr hW j hlt
      have HX2 : Hid (∀ w', Below wr.heap.size wr w' → w'.cell? ⟨W.heap.size, 0, none⟩ = some (.int .i64 3) ∧ w'.cell? ⟨W.heap.size, 1, none⟩ = some (.int .i64 v) ∧ w'.cell? ⟨W.heap.size, 2, none⟩ = some (.int .i64 n) ∧ w'.cell? ⟨W.heap.size, 3, none⟩ = some (.slice (some ⟨b, off, none⟩) ps.length cap) ∧ w'.cell? ⟨W.heap.size + 1, 0, none⟩ = some (.int .i64 x.d) ∧ w'.cell? ⟨W.heap.size + 1, 1, none⟩ = some (.int .i64 x.f) ∧ w'.cell? ⟨W.heap.size + 1, 2, none⟩ = some (.int .i64 x.s) ∧ w'.cell? ⟨b, off + j * 4, none⟩ = some (.int .i64 ps[j].k) ∧ w'.cell? ⟨b, off + j * 4 + 1, none⟩ = some (.int .i64 ps[j].v) ∧ w'.cell? ⟨b, off + j * 4 + 2, none⟩ = some (.int .i64 ps[j].n) ∧ w'.cell? ⟨b, off + j * 4 + 3, none⟩ = some (.slice (P j) ps[j].ps.length (C j)) ∧ Hid (Below wr.heap.size wr w')) := Lib.hid fun w' hb => by
        obtain ⟨z0, z1, z2, z3, z4, z5, z6⟩ := HX.out w' (HB.out.trans (hb.mono HB.out.size))
        obtain ⟨-, z7, z8, z9, z10⟩ := HE.out w' (hW.trans (hb.mono hW.size)) j hlt
        exact ⟨z0, z1, z2, z3, z4, z5, z6, z7, z8, z9, z10, Lib.hid hb⟩
      have HV : Hid (∀ w1 : World, Below wr.heap.size wr w1 → Calls Tryz.prog 55 #[.agg #[.int .i64 ps[j].k, .int .i64 ps[j].v, .int .i64 ps[j].n, .slice (P j) ps[j].ps.length (C j)], .agg #[.int .i64 x.d, .int .i64 x.f, .int .i64 x.s]] w1 fun e w' => e = .returned (.bool (rHold x ps[j])) ∧ Hid (Below wr.heap.size wr w')) := Lib.hid fun w1 hb => by
        have := HK.out w1 (hW.trans (hb.mono hW.size)) j hlt
        exact this.mono fun e w' hr => ⟨hr.1, Lib.hid (hb.trans (hr.2.mono hb.size))⟩
      have HS1 : Hid (rHold x ps[j] = false → rHoldO x (ps.drop (j + 1)) = T) := Lib.hid fun h => by
        have := HI.out
        rw [(List.getElem_cons_drop hlt).symm, rHoldO, h, Bool.false_or] at this
        exact this
      have HS2 : Hid (rHold x ps[j] = true → T = true) := Lib.hid fun h => by
        have := HI.out
        rw [(List.getElem_cons_drop hlt).symm, rHoldO, h, Bool.true_or] at this
        exact this.symm
      clear HX HE HK HI hW
      generalize rHold x ps[j] = q at *
      generalize ps[j].k = x1 at *
      generalize ps[j].v = x2 at *
      generalize ps[j].n = x3 at *
      generalize ps[j].ps.length = l1 at *
      generalize P j = q1 at *
      generalize C j = c1 at *
      generalize hln : ps.length = ln at *
      cases q
      all_goals
        first
          | (have HI2 := Lib.hid (HS1.out rfl); clear HS1 HS2)
          | (obtain rfl := HS2.out rfl; clear HS1 HS2)
        go_wp2_with fail
        go_region_held3 (fun w' => w'.cell? ⟨W.heap.size, 0, none⟩ = some (.int .i64 3) ∧ w'.cell? ⟨W.heap.size, 1, none⟩ = some (.int .i64 v) ∧ w'.cell? ⟨W.heap.size, 2, none⟩ = some (.int .i64 n) ∧ w'.cell? ⟨W.heap.size, 3, none⟩ = some (.slice (some ⟨b, off, none⟩) ln cap) ∧ w'.cell? ⟨W.heap.size + 1, 0, none⟩ = some (.int .i64 x.d) ∧ w'.cell? ⟨W.heap.size + 1, 1, none⟩ = some (.int .i64 x.f) ∧ w'.cell? ⟨W.heap.size + 1, 2, none⟩ = some (.int .i64 x.s) ∧ w'.cell? ⟨b, off + j * 4, none⟩ = some (.int .i64 x1) ∧ w'.cell? ⟨b, off + j * 4 + 1, none⟩ = some (.int .i64 x2) ∧ w'.cell? ⟨b, off + j * 4 + 2, none⟩ = some (.int .i64 x3) ∧ w'.cell? ⟨b, off + j * 4 + 3, none⟩ = some (.slice q1 l1 c1) ∧ Hid (Below wr.heap.size wr w'))
          (first
            | with_reducible exact HX2.out _ (Below.refl _ _).drew
            | with_reducible exact HX2.out _ (Below.refl _ _)
            | with_reducible exact HX2.out _ hb1.out
            | assumption | go_keep)
          ((go_at_call 55; with_reducible refine (HV.out _ (held11 (W := wr) (by assumption))).mono ?_; rintro e w' ⟨rfl, hb1⟩))
        all_goals
          go_wp2_with fail
          first
            | (go_ret; exact ⟨rfl, HA.out.trans ((HB.out.trans (hb1.out.mono HB.out.size)).mono HA.out.size)⟩)
            | (go_roundw
               case rel => exact ⟨j + 1, by omega, by go_num, HI2, Lib.hid (HB.out.trans (hb1.out.mono HB.out.size))⟩
               case measure => simp [intOf]; omega)
    · have hji : ¬ (j : Int) < (ps.length : Int) := by omega
      have hT : T = false := by
        have := HI.out
        rw [List.drop_of_length_le (by omega), rHoldO] at this
        exact this.symm
      subst hT
      clear HX HE HK HI
      go_wp2_with fail
      go_ret
      exact ⟨rfl, HA.out.trans (HB.out.mono HA.out.size)⟩
end Go.Proofs.YtabdgnigmlpeaaaGreatDoor
/- The specification: holds and Holds. -/
namespace Go.Proofs.YtabdgnigmlpeaaaGreatDoor
open Go.RowKit

theorem rHoldA_one (x : En) : ∀ (l : List Cd) (_ : l.length = 1) (h0 : 0 < l.length), rHoldA x l = rHold x l[0]
  | [c], _, _ => by simp [rHoldA]
theorem rholds_any (x : En) {w0 : World} {Q : Nat → Prop} {c : Cd} {p : Option Addr} {cap : Nat} (h : CdIn w0 Q c p cap) : okC c = true → ∀ (W : World), Below w0.heap.size w0 W →
    Calls Tryz.prog 55 #[cV c p cap, envV x] W fun e w' => e = .returned (.bool (rHold x c)) ∧ Below W.heap.size W w' := by
  induction h with
  | mk k v n ps p cap b off P C hl hc hc2 hp hb hcell hsub ih =>
    intro hok W hW
    rw [okC] at hok
    have hcell' : ∀ w', Below W.heap.size W w' → ∀ j (h : j < ps.length), w'.cell? ⟨b, off + j * 4, none⟩ = some (.int .i64 ps[j].k) ∧ w'.cell? ⟨b, off + j * 4 + 1, none⟩ = some (.int .i64 ps[j].v) ∧ w'.cell? ⟨b, off + j * 4 + 2, none⟩ = some (.int .i64 ps[j].n) ∧ w'.cell? ⟨b, off + j * 4 + 3, none⟩ = some (.slice (P j) ps[j].ps.length (C j)) := fun w' hb' j hj => by
      have hbb := hW.trans (hb'.mono hW.size)
      obtain ⟨a0, a1, a2, a3⟩ := hcell j hj
      exact ⟨keepc hbb a0, keepc hbb a1, keepc hbb a2, keepc hbb a3⟩
    have hcall' : okCs ps = true → ∀ w', Below W.heap.size W w' → ∀ j (h : j < ps.length), Calls Tryz.prog 55 #[cV ps[j] (P j) (C j), envV x] w' fun e w2 => e = .returned (.bool (rHold x ps[j])) ∧ Below w'.heap.size w' w2 := fun ho w' hb' j hj =>
      ih j hj (by rw [okCs_eq] at ho; exact List.all_eq_true.1 ho _ (List.getElem_mem hj)) w' (hW.trans (hb'.mono hW.size))
    have hpp : ps ≠ [] → p = some ⟨b, off, none⟩ := fun h => (hb h).1
    show Calls Tryz.prog 55 #[.agg #[.int .i64 k, .int .i64 v, .int .i64 n, .slice p ps.length cap], envV x] W _
    rw [rHold]
    by_cases h1 : k = 1
    · subst h1
      rw [if_pos rfl] at hok
      rw [if_pos rfl]
      simp only [Bool.and_eq_true, decide_eq_true_eq] at hok
      exact rhold_1 v n p ps.length cap hok.1 x W
    rw [if_neg h1] at hok
    rw [if_neg h1]
    by_cases h23 : k = 2 ∨ k = 3
    · rw [if_pos h23] at hok
      simp only [Bool.and_eq_true, decide_eq_true_eq] at hok
      have hc' := hcall' hok.2.2
      rcases h23 with rfl | rfl
      · rw [if_neg (by decide), if_pos rfl]
        exact rhold_2 v n ps p b off cap P C hl hc hc2 hpp x W hcell' hc'
      · rw [if_neg (by decide), if_neg (by decide)]
        exact rhold_3 v n ps p b off cap P C hl hc hc2 hpp x W hcell' hc'
    · rw [if_neg h23] at hok
      by_cases h4 : k = 4
      · subst h4
        rw [if_pos rfl] at hok
        rw [if_pos rfl]
        simp only [Bool.and_eq_true, decide_eq_true_eq] at hok
        have hc' := hcall' hok.2.2
        have h0 : 0 < ps.length := by omega
        have hpe := hpp (List.length_pos_iff.1 h0)
        subst hpe
        rw [rHoldA_one x ps hok.1 h0]
        exact rhold_4 v n b off ps.length cap h0 hc hc2 ps[0].k ps[0].v ps[0].n (P 0) ps[0].ps.length (C 0) (rHold x ps[0]) x W (fun w' hb' => by have h5 := hcell' w' hb' 0 h0; rw [Nat.zero_mul, Nat.add_zero] at h5; exact h5) (fun w' hb' => hc' w' hb' 0 h0)
      · rw [if_neg h4] at hok; cases hok

def rHoldsR (c : Cd) (x : En) : Bool × Int := if rCond c ≠ 0 then (false, rCond c) else if envE x ≠ 0 then (false, envE x) else (rHold x c, 0)
theorem okC_of (c : Cd) (h : rCond c = 0) : okC c = true := by
  unfold rCond at h
  by_cases h1 : okC c = true
  · exact h1
  · rw [if_neg h1] at h; split at h <;> omega
set_option maxHeartbeats 4000000 in
set_option maxRecDepth 100000 in
theorem rHolds_any (x : En) {w : World} {Q : Nat → Prop} {c : Cd} {p : Option Addr} {cap : Nat} (h : CdIn w Q c p cap) :
    Calls Tryz.prog 25 #[cV c p cap, envV x] w fun e w' => e = .returned (.tuple #[.bool (rHoldsR c x).1, .int .i64 (rHoldsR c x).2]) ∧ Below w.heap.size w w' := by
  have hA := (Below.refl w.heap.size w).alloc (Nat.le_refl _) (.cells #[.int .i64 c.k, .int .i64 c.v, .int .i64 c.n, .slice p c.ps.length cap] 40)
  have hA2 := hA.alloc hA.size (.cells #[.int .i64 x.d, .int .i64 x.f, .int .i64 x.s] 42)
  have HA := Lib.hid hA2
  have HX : Hid (∀ w', Below ((w.alloc (.cells #[.int .i64 c.k, .int .i64 c.v, .int .i64 c.n, .slice p c.ps.length cap] 40)).alloc (.cells #[.int .i64 x.d, .int .i64 x.f, .int .i64 x.s] 42)).heap.size ((w.alloc (.cells #[.int .i64 c.k, .int .i64 c.v, .int .i64 c.n, .slice p c.ps.length cap] 40)).alloc (.cells #[.int .i64 x.d, .int .i64 x.f, .int .i64 x.s] 42)) w' →
      w'.cell? ⟨w.heap.size, 0, none⟩ = some (.int .i64 c.k) ∧ w'.cell? ⟨w.heap.size, 1, none⟩ = some (.int .i64 c.v) ∧ w'.cell? ⟨w.heap.size, 2, none⟩ = some (.int .i64 c.n) ∧ w'.cell? ⟨w.heap.size, 3, none⟩ = some (.slice p c.ps.length cap) ∧ w'.cell? ⟨w.heap.size + 1, 0, none⟩ = some (.int .i64 x.d) ∧ w'.cell? ⟨w.heap.size + 1, 1, none⟩ = some (.int .i64 x.f) ∧ w'.cell? ⟨w.heap.size + 1, 2, none⟩ = some (.int .i64 x.s)) := Lib.hid fun w' hb =>
    ⟨keepc hb (by simp [go_sem]), keepc hb (by simp [go_sem]), keepc hb (by simp [go_sem]), keepc hb (by simp [go_sem]), keepc hb (by simp [go_sem]), keepc hb (by simp [go_sem]), keepc hb (by simp [go_sem])⟩
  have HC : Hid (∀ W, Below w.heap.size w W → Calls Tryz.prog 17 #[cV c p cap] W fun e w' => e = .returned (.int .i64 (rCond c)) ∧ Below W.heap.size W w') := Lib.hid fun W hb => rcond_any (h.bel hb)
  have HN : Hid (∀ W, Calls Tryz.prog 21 #[envV x] W fun e w' => e = .returned (.int .i64 (envE x)) ∧ Below W.heap.size W w') := Lib.hid fun W => renv_any x W
  have HH : Hid (rCond c = 0 → ∀ W, Below w.heap.size w W → Calls Tryz.prog 55 #[cV c p cap, envV x] W fun e w' => e = .returned (.bool (rHold x c)) ∧ Below W.heap.size W w') := Lib.hid fun h0 W hb => rholds_any x h (okC_of c h0) W hb
  unfold rHoldsR
  clear h hA hA2
  unfold cV at *
  unfold envV at *
  generalize rCond c = rc at *
  generalize envE x = re at *
  generalize rHold x c = q at *
  generalize c.k = x1 at *
  generalize c.v = x2 at *
  generalize c.n = x3 at *
  generalize c.ps.length = x4 at *
  by_cases h0 : rc = 0
  · subst h0
    rw [if_neg (fun h => h rfl)]
    by_cases h1 : re = 0
    · subst h1
      rw [if_neg (fun h => h rfl)]
      have HH2 := Lib.hid (HH.out rfl)
      clear HH
      go_enter Tryz.func25, Tryz.ntmps25
      go_wp2_with (first
        | (go_at_call 17; (with_reducible refine (HC.out _ HA.out).mono ?_); rintro e w1 ⟨rfl, hb⟩; obtain ⟨y0, y1, y2, y3, y4, y5, y6⟩ := HX.out _ hb; have HB1 := Lib.hid hb; clear hb)
        | (go_at_call 21; (with_reducible refine (HN.out _).mono ?_); rintro e w2 ⟨rfl, hb⟩; clear y0 y1 y2 y3 y4 y5 y6; obtain ⟨y0, y1, y2, y3, y4, y5, y6⟩ := HX.out _ (HB1.out.trans (hb.mono HB1.out.size)); have HB2 := Lib.hid (HB1.out.trans (hb.mono HB1.out.size)); clear hb)
        | (go_at_call 55; (with_reducible refine (HH2.out _ (HA.out.trans (HB2.out.mono HA.out.size))).mono ?_); rintro e w3 ⟨rfl, hb⟩; have HB3 := Lib.hid (HB2.out.trans (hb.mono HB2.out.size)); clear hb))
      go_ret2
      exact ⟨rfl, HA.out.trans (HB3.out.mono HA.out.size)⟩
    · rw [if_pos h1]
      have hne : (re != 0) = true := by simpa using h1
      clear HH h1
      go_enter Tryz.func25, Tryz.ntmps25
      go_wp2_with (first
        | (go_at_call 17; (with_reducible refine (HC.out _ HA.out).mono ?_); rintro e w1 ⟨rfl, hb⟩; obtain ⟨y0, y1, y2, y3, y4, y5, y6⟩ := HX.out _ hb; have HB1 := Lib.hid hb; clear hb)
        | (go_at_call 21; (with_reducible refine (HN.out _).mono ?_); rintro e w2 ⟨rfl, hb⟩; have HB2 := Lib.hid (HB1.out.trans (hb.mono HB1.out.size)); clear hb))
      go_ret2
      exact ⟨rfl, HA.out.trans (HB2.out.mono HA.out.size)⟩
  · rw [if_pos h0]
    have hne : (rc != 0) = true := by simpa using h0
    clear HH h0
    go_enter Tryz.func25, Tryz.ntmps25
    go_wp2_with (go_at_call 17; (with_reducible refine (HC.out _ HA.out).mono ?_); rintro e w1 ⟨rfl, hb⟩; have HB1 := Lib.hid hb; clear hb)
    go_ret2
    exact ⟨rfl, HA.out.trans (HB1.out.mono HA.out.size)⟩
end Go.Proofs.YtabdgnigmlpeaaaGreatDoor
/- The specification: a badge is in a list. -/
namespace Go.Proofs.YtabdgnigmlpeaaaGreatDoor
open Go.RowKit

set_option maxHeartbeats 4000000 in
set_option maxRecDepth 100000 in
theorem rin_any (a : List Int) (n : Int) (x : Value) (W : World) (ha : ReadsI W x a) :
    Calls Tryz.prog 31 #[x, .int .i64 n] W fun e w' => e = .returned (.bool (a.contains n)) ∧ Below W.heap.size W w' := by
  obtain ⟨p, cap, k, rfl, h1, h2, h3, h4, h5⟩ := ha
  have HB0 := Lib.hid (Below.refl W.heap.size W)
  obtain ⟨T, hT⟩ : ∃ T, a.contains n = T := ⟨_, rfl⟩
  rw [hT]
  have H0 : Hid ((a.drop 0).contains n = T) := Lib.hid (by rw [List.drop_zero]; exact hT)
  have HE : Hid (∀ w', Below W.heap.size W w' → ∀ j (h : j < a.length), p = some ⟨k, 0, none⟩ ∧ w'.cell? ⟨k, j, none⟩ = some (.int .i64 a[j])) := Lib.hid fun w' hb j hj =>
    ⟨h2 (by rintro rfl; simp at hj), keepc hb (h3 j hj)⟩
  clear h2 h3 hT
  go_enter Tryz.func31, Tryz.ntmps31
  go_wp2_with fail
  go_loopw [5] (fun i wr => ∃ j : Nat, j ≤ a.length ∧ i = .int .i64 j ∧ Hid ((a.drop j).contains n = T) ∧ Hid (Below W.heap.size W wr)) (fun i _ => a.length - (intOf i).toNat)
  case atStart => exact ⟨0, Nat.zero_le _, rfl, H0, HB0⟩
  case round =>
    obtain ⟨j, hj, rfl, HI, HB⟩ := hrel
    clear H0 HB0
    by_cases hlt : j < a.length
    · have hji : (j : Int) < (a.length : Int) := by omega
      obtain ⟨rfl, c1⟩ := HE.out _ HB.out j hlt
      have hI := HI.out
      rw [(List.getElem_cons_drop hlt).symm, List.contains_cons] at hI
      by_cases hv : n = a[j]
      · have hvi : (a[j] == n) = true := by rw [hv]; simp
        have hT : T = true := by rw [← hI, hv]; simp
        subst hT
        clear HE HI hI hv
        generalize a[j] = v1 at *
        go_wp2_with fail
        go_ret
        exact ⟨rfl, HB.out⟩
      · have hvi : (a[j] == n) = false := beq_eq_false_iff_ne.2 (fun h => hv h.symm)
        have HI2 : Hid ((a.drop (j + 1)).contains n = T) := Lib.hid (by rw [← hI, show (n == a[j]) = false from beq_eq_false_iff_ne.2 hv, Bool.false_or])
        clear HE HI hI hv
        generalize a[j] = v1 at *
        go_wp2_with fail
        go_round
        case rel => exact ⟨j + 1, by omega, by go_num, HI2, HB⟩
        case measure => simp [intOf]; omega
    · have hji : ¬ (j : Int) < (a.length : Int) := by omega
      have hT : T = false := by
        have := HI.out
        rw [List.drop_of_length_le (by omega)] at this
        exact this.symm
      subst hT
      clear HE HI
      go_wp2_with fail
      go_ret
      exact ⟨rfl, HB.out⟩
end Go.Proofs.YtabdgnigmlpeaaaGreatDoor
/- Rows of numbers of the call's own: a row behind a row, a number behind a row, in a region that draws its order. -/
namespace Go.Proofs.YtabdgnigmlpeaaaGreatDoor
open Go.RowKit

theorem OwnI.cells {w : World} {B g n cap : Nat} {l : List Int} (h : OwnI w B (.slice (some ⟨g, 0, none⟩) n cap) l) : ∀ j u, (rowV l)[j]? = some u → w.cell? ((⟨g, 0, none⟩ : Addr).add j) = some u := World.ownsRow.cells h (g := g) rfl
theorem OwnI.of_block {w : World} {B k : Nat} {fr : Nat × Nat} (hk : w.heap[k]? = some (.cells #[] 3 fr)) (hB : B ≤ k) (hf : fr = (0, 0)) : OwnI w B (.slice (some ⟨k, 0, none⟩) 0 0) [] := by
  subst hf
  exact ⟨rfl, .inr ⟨k, 0, #[], rfl, hB, hk, Nat.le_refl _, by unfold maxLen; omega, rfl, rfl⟩⟩
theorem own1 (V : World) (k B : Nat) (hk : V.heap.size = k) (hB : B ≤ k) : OwnI (V.alloc (.cells #[] 3)) B (.slice (some ⟨k, 0, none⟩) 0 0) [] := by
  subst hk
  exact OwnI.of_block (heap_alloc_new V _) hB rfl
theorem OwnI.drewI {w : World} {B : Nat} {v : Value} {l : List Int} (h : OwnI w B v l) : OwnI w.drew B v l := h.bel (Below.refl _ _).drew
theorem OwnI.allocI {w : World} {B : Nat} {v : Value} {l : List Int} (h : OwnI w B v l) (o : Obj) : OwnI (w.alloc o) B v l := h.bel ((Below.refl _ _).alloc (Nat.le_refl _) _)
theorem below_in {A w1 W w5 : World} (h0 : Below A.heap.size A w1) (h1 : Below w1.heap.size w1 W) (h2 : Below w1.heap.size W w5) : Below A.heap.size A w5 := h0.trans ((h1.trans h2).mono h0.size)
theorem below_in2 {A w5 W w6 : World} {B : Nat} (h0 : Below A.heap.size A w5) (hA : A.heap.size ≤ B) (h1 : Below w5.heap.size w5 W) (h2 : Below B W w6) : Below A.heap.size A w6 := (h0.trans (h1.mono h0.size)).trans (h2.mono hA)
theorem OwnI.low {w : World} {B : Nat} {v : Value} {l : List Int} (h : OwnI w B v l) : OwnI w 0 v l := by
  refine ⟨h.1, h.2.imp id ?_⟩
  rintro ⟨g, cap, cur, rfl, a, b⟩
  exact ⟨g, cap, cur, rfl, Nat.zero_le _, b⟩
theorem OwnI.below {w w' : World} {B : Nat} {v : Value} {l : List Int} (h : OwnI w B v l) (hg : w.grownBy w' v.ownBlock) (hB : B ≤ w.heap.size) : Below B w w' :=
  ⟨hg.os, hg.tape, hg.output, hg.size, fun k hk => hg.block k (by omega) fun e => by have := (h.lt k e.symm).1; omega⟩
theorem wp_copyI {o : Oper} {a : Act} {w : World} {K : Act → World → Prop} {Q : Exit → Act → World → Prop} (s x : Operand)
    (ho : o.op = .call { callee := .builtin .append, args := #[s, x], argTypes := #[49, 49] })
    (B : Nat) (val : Value) (l : List Int) (hown : OwnI w B val l) (hs : a.eval s = val) (B2 : Nat) (val2 : Value) (cs : List Int) (hsrc : OwnI w B2 val2 cs) (hx : a.eval x = val2) (hn : l.length + cs.length ≤ 3000000) (hB : B ≤ w.heap.size)
    (h : ∀ v2 w', OwnI w' B v2 (l ++ cs) → w.grownBy w' val.ownBlock → Below B w w' → K (a.put o.dst v2) w') :
    Oper.wp Tryz.prog o a w K Q := by
  obtain ⟨i0, hi, hz0, hz1, hz2⟩ := info_parts Tryz.infoI
  rcases hsrc.2 with ⟨hv, hn0⟩ | ⟨g, cap, cur, hv, hBg, hg, hc, hm, hsz, ht⟩
  · obtain rfl : cs = [] := List.length_eq_zero_iff.1 hn0
    have hrun := run_append_owned_none (P := Tryz.prog) (w := w) B 49 o.type 3 i0 1 Tryz.underlying49 hi val l.length (rowV l) hown
    have hk := h val w (by rw [List.append_nil]; exact hown) (World.grownBy.refl _ _) (Below.refl _ _)
    unfold Oper.wp
    simp [execOp, ho, resolve, invoke, builtin, hs, hx, hv, hrun, Result.andThen]
    exact hk
  · subst hv
    refine wp_append_own w s x 49 ho B 3 i0 _ 1 8 Tryz.underlying49 hi hz0 hz1 hz2 rfl (by decide) val l.length (rowV l) hs hown ⟨g, 0, none⟩ cs.length cap (rowV cs) hx (by simp [rowV]) (World.ownsRow.cells hsrc (g := g) rfl) (by simp [rowV, Value.oneCell']) (by unfold maxLen; omega) (by omega) hB ?_
    intro v' w' ho' hg' _
    refine h v' w' ?_ hg' (hown.below hg' hB)
    unfold OwnI
    rw [List.length_append]
    have : rowV (l ++ cs) = rowV l ++ rowV cs := by simp [rowV]
    rw [this]
    exact ho'
theorem step_copyI {ops : Array Oper} {o : Oper} {a : Act} {w : World} {K : Act → World → Prop} {Q : Exit → Act → World → Prop} {E : Prop} (hgd : o.guard = none) (s x : Operand)
    (ho : o.op = .call { callee := .builtin .append, args := #[s, x], argTypes := #[49, 49] })
    (B : Nat) (val : Value) (l : List Int) (hown : OwnI w B val l) (hs : a.eval s = val) (B2 : Nat) (val2 : Value) (cs : List Int) (hsrc : OwnI w B2 val2 cs) (hx : a.eval x = val2) (hn : l.length + cs.length ≤ 3000000) (hB : B ≤ w.heap.size)
    (h : ∀ v2 w', OwnI w' B v2 (l ++ cs) → w.grownBy w' val.ownBlock → Below B w w' → K (a.put o.dst v2) w') :
    if Region.wanted o (yielded ops a.tmps) = true then Oper.wp Tryz.prog o a w K Q else E := by
  have hw : Region.wanted o (yielded ops a.tmps) = true := by simp [Region.wanted, hgd]
  rw [if_pos hw]
  exact wp_copyI s x ho B val l hown hs B2 val2 cs hsrc hx hn hB h
theorem step_pushI {ops : Array Oper} {o : Oper} {a : Act} {w : World} {K : Act → World → Prop} {Q : Exit → Act → World → Prop} {E : Prop} (hgd : o.guard = none) (s x : Operand)
    (ho : o.op = .call { callee := .builtin .append, args := #[s, x], argTypes := #[49, 49] })
    (B : Nat) (val : Value) (l : List Int) (hown : OwnI w B val l) (hs : a.eval s = val) (H c : Nat) (hx : a.eval x = .slice (some ⟨H, 0, none⟩) 1 c) (n : Int) (hcell : w.cell? ⟨H, 0, none⟩ = some (.int .i64 n)) (hn : l.length ≤ 3000000) (hB : B ≤ w.heap.size)
    (h : ∀ v2 w', OwnI w' B v2 (l ++ [n]) → w.grownBy w' val.ownBlock → Below B w w' → K (a.put o.dst v2) w') :
    if Region.wanted o (yielded ops a.tmps) = true then Oper.wp Tryz.prog o a w K Q else E := by
  obtain ⟨i0, hi, hz0, hz1, hz2⟩ := info_parts Tryz.infoI
  have hcells : ∀ j u, ([.int .i64 n] : List Value)[j]? = some u → w.cell? ((⟨H, 0, none⟩ : Addr).add j) = some u := by
    intro j u hj
    match j, hj with
    | 0, hj => simp at hj; subst hj; simpa [Addr.add] using hcell
    | j + 1, hj => simp at hj
  refine step_append_lies _ hgd s x 49 ho B 3 i0 _ 1 8 Tryz.underlying49 hi hz0 hz1 hz2 rfl (by decide) val l.length (rowV l) hs hown ⟨H, 0, none⟩ 1 c _ hx rfl hcells (by simp [Value.oneCell']) (by decide) (by unfold maxLen; omega) (by omega) hB w.heap.size rfl ?_
  intro g cap' w' hown' hg _ _
  refine h _ w' ?_ hg (hown.below hg hB)
  unfold OwnI
  rw [List.length_append]
  have : rowV (l ++ [n]) = rowV l ++ [.int .i64 n] := by simp [rowV]
  rw [this]
  exact hown'
theorem wpList_copyI {ops : Array Oper} {rest : List Oper} {o : Oper} {a : Act} {w : World} {Q : Exit → Act → World → Prop} (hgd : o.guard = none) (s x : Operand)
    (ho : o.op = .call { callee := .builtin .append, args := #[s, x], argTypes := #[49, 49] })
    (B : Nat) (val : Value) (l : List Int) (hown : OwnI w B val l) (hs : a.eval s = val) (B2 : Nat) (val2 : Value) (cs : List Int) (hsrc : OwnI w B2 val2 cs) (hx : a.eval x = val2) (hn : l.length + cs.length ≤ 3000000) (hB : B ≤ w.heap.size)
    (h : ∀ v2 w', OwnI w' B v2 (l ++ cs) → w.grownBy w' val.ownBlock → Below B w w' → wpList Tryz.prog ops Q rest (a.put o.dst v2) w') : wpList Tryz.prog ops Q (o :: rest) a w :=
  wpList_plain hgd fun _ hK => wp_copyI s x ho B val l hown hs B2 val2 cs hsrc hx hn hB fun v2 w' h1 h2 h3 => hK _ _ (h v2 w' h1 h2 h3)
end Go.Proofs.YtabdgnigmlpeaaaGreatDoor
/- The specification: Applied and Direct, out of the contract of applied. -/
namespace Go.Proofs.YtabdgnigmlpeaaaGreatDoor
open Go.RowKit

/-- The contract of the specification's applied. -/
def RAp : Prop := ∀ {w0 : World} {Q : Nat → Prop} {ss : List St} {p : Option Addr} {cap : Nat}, SsIn w0 Q ss p cap → okSs ss = true → ∀ (x : En) (W : World) (l : List Int) (v : Value), Below w0.heap.size w0 W → OwnI W 0 v l → l.length + szSs ss ≤ 1000000 →
  Calls Tryz.prog 116 #[.slice p ss.length cap, envV x, v] W fun e w' => ∃ v', e = .returned v' ∧ OwnI w' 0 v' (rApps x l ss) ∧ Below W.heap.size W w'
theorem own0 (V : World) (k : Nat) (hk : V.heap.size = k) : OwnI (V.alloc (.cells #[] 3)) 0 (.slice (some ⟨k, 0, none⟩) 0 0) [] := by
  subst hk
  exact ⟨rfl, .inr ⟨V.heap.size, 0, #[], rfl, Nat.zero_le _, heap_alloc_new V _, Nat.le_refl _, by unfold maxLen; omega, rfl, rfl⟩⟩
set_option maxHeartbeats 1000000 in
theorem rApplied_of (hA : RAp) {w : World} {Q : Nat → Prop} {ss : List St} {p : Option Addr} {cap : Nat} (h : SsIn w Q ss p cap) (hok : okSs ss = true) (hsz : szSs ss ≤ 1000000) (x : En) :
    Calls Tryz.prog 53 #[.slice p ss.length cap, envV x] w fun e w' => ∃ v', e = .returned v' ∧ OwnI w' 0 v' (rApps x [] ss) ∧ Below w.heap.size w w' := by
  have hB1 := (Below.refl w.heap.size w).alloc (Nat.le_refl _) (.cells #[.int .i64 x.d, .int .i64 x.f, .int .i64 x.s] 42)
  have hB2 := hB1.alloc hB1.size (.cells #[] 3)
  have HB := Lib.hid hB2
  have HC := Lib.hid (hA h hok x _ [] _ hB2 (own0 (w.alloc (.cells #[.int .i64 x.d, .int .i64 x.f, .int .i64 x.s] 42)) (w.heap.size + 1) (by simp)) (by simpa using hsz))
  clear h hok hB1 hB2
  unfold envV at *
  go_enter Tryz.func53, Tryz.ntmps53
  go_wp2_with (go_at_call 116; (with_reducible refine HC.out.mono ?_); rintro e w1 ⟨v', rfl, ho, hb⟩; have HO := Lib.hid ho; have HB2 := Lib.hid (HB.out.trans (hb.mono HB.out.size)); clear ho hb)
  go_ret
  exact ⟨_, rfl, HO.out, HB2.out⟩
theorem rties_ok {l : List St} (h : tiesE l = 0) : okSs l = true ∧ szSs l ≤ 1000000 := by
  have h0 := h
  rw [ties_same] at h0
  unfold rTies at h0
  have h1 : okSs l = true := by
    split at h0
    · cases h0
    · split at h0
      · rename_i h2
        rw [Bool.and_eq_true] at h2
        exact h2.2
      · cases h0
  refine ⟨h1, ?_⟩
  unfold tiesE at h
  split at h
  · cases h
  · rename_i h3
    have hf : (fitT 0 64 l).1 = true := by
      cases hh : (fitT 0 64 l).1 with
      | true => rfl
      | false => exact absurd (.inl hh) h3
    have := fitT_few hf
    omega
set_option maxHeartbeats 4000000 in
set_option maxRecDepth 100000 in
theorem rDirect_of (hAp : RAp) {w : World} {Q : Nat → Prop} {l : List St} {p : Option Addr} {cap : Nat} (h : SsIn w Q l p cap) (x : En) : Calls Tryz.prog 23 #[.slice p l.length cap, envV x] w (DirR w (directR l x)) := by
  have hA := (Below.refl w.heap.size w).alloc (Nat.le_refl _) (.cells #[.int .i64 x.d, .int .i64 x.f, .int .i64 x.s] 42)
  have HA := Lib.hid hA
  have HX : Hid (∀ w', Below (w.alloc (.cells #[.int .i64 x.d, .int .i64 x.f, .int .i64 x.s] 42)).heap.size (w.alloc (.cells #[.int .i64 x.d, .int .i64 x.f, .int .i64 x.s] 42)) w' → w'.cell? ⟨w.heap.size, 0, none⟩ = some (.int .i64 x.d) ∧ w'.cell? ⟨w.heap.size, 1, none⟩ = some (.int .i64 x.f) ∧ w'.cell? ⟨w.heap.size, 2, none⟩ = some (.int .i64 x.s)) := Lib.hid fun w' hb => ⟨keepc hb (by simp [go_sem]), keepc hb (by simp [go_sem]), keepc hb (by simp [go_sem])⟩
  have HT := Lib.hid (rties_any (h.bel hA))
  rw [← ties_same] at HT
  have HN := Lib.hid (fun W => renv_any x W)
  have HP : Hid (tiesE l = 0 → ∀ W, Below w.heap.size w W → Calls Tryz.prog 53 #[.slice p l.length cap, envV x] W fun e w' => ∃ q n c, e = .returned (.slice q n c) ∧ Hid (ReadsI w' (.slice q n c) (appFs x [] (l.map formS))) ∧ Hid (Below W.heap.size W w')) := Lib.hid fun h0 W hb => by
    obtain ⟨hok, hsz⟩ := rties_ok h0
    refine (rApplied_of hAp (h.bel hb) hok hsz x).mono fun e w' ⟨v, he, ho, hb2⟩ => ?_
    rw [← formSs_eq, app_forms x l [] hok]
    have hlen := appFs_len x (formSs l) []
    rw [app_forms x l [] hok, List.length_nil] at hlen
    have hn := nFs_formSs l
    obtain ⟨q, c, b, h1, h2, h3, h4⟩ := OwnI.reads ho (by omega)
    subst h1
    exact ⟨q, _, c, he, Lib.hid ⟨q, c, b, rfl, by omega, h2, h3, h4⟩, Lib.hid hb2⟩
  clear h hA
  unfold directR
  unfold envV at *
  generalize tiesE l = E at *
  generalize appFs x [] (l.map formS) = L at *
  generalize envE x = E2 at *
  generalize l.length = n at *
  have HNil := Lib.hid ReadsI.nil
  by_cases hE : E = 0
  · subst hE
    have HP2 := Lib.hid (HP.out rfl)
    rw [if_neg (by decide)]
    clear HP
    by_cases hE2 : E2 = 0
    · subst hE2
      rw [if_neg (by decide)]
      go_enter Tryz.func23, Tryz.ntmps23
      go_wp2_with (first
        | (go_at_call 19; (with_reducible refine HT.out.mono ?_); rintro e w1 ⟨rfl, hb⟩; have HB1 := Lib.hid hb; obtain ⟨y0, y1, y2⟩ := HX.out w1 hb; clear hb)
        | (go_at_call 21; (with_reducible refine (HN.out _).mono ?_); rintro e w2 ⟨rfl, hb⟩; have HB2 := Lib.hid (HB1.out.trans (hb.mono HB1.out.size)); clear y0 y1 y2; obtain ⟨y0, y1, y2⟩ := HX.out w2 HB2.out; clear hb)
        | (go_at_call 53; (with_reducible refine (HP2.out _ (HA.out.trans (HB2.out.mono HA.out.size))).mono ?_); rintro e w3 ⟨q, m, c, rfl, hr, hb⟩; have HB3 := Lib.hid (HB2.out.trans (hb.out.mono HB2.out.size)); clear hb))
      go_ret2
      exact ⟨_, rfl, hr.out, HA.out.trans (HB3.out.mono HA.out.size)⟩
    · have hb0 : (E2 != 0) = true := by simpa using hE2
      rw [if_pos hE2]
      clear hE2 HP2
      go_enter Tryz.func23, Tryz.ntmps23
      go_wp2_with (first
        | (go_at_call 19; (with_reducible refine HT.out.mono ?_); rintro e w1 ⟨rfl, hb⟩; have HB1 := Lib.hid hb; obtain ⟨y0, y1, y2⟩ := HX.out w1 hb; clear hb)
        | (go_at_call 21; (with_reducible refine (HN.out _).mono ?_); rintro e w2 ⟨rfl, hb⟩; have HB2 := Lib.hid (HB1.out.trans (hb.mono HB1.out.size)); clear hb))
      go_ret2
      exact ⟨_, rfl, HNil.out _, HA.out.trans (HB2.out.mono HA.out.size)⟩
  · have hb0 : (E != 0) = true := by simpa using hE
    rw [if_pos hE]
    clear hE HP
    go_enter Tryz.func23, Tryz.ntmps23
    go_wp2_with (go_at_call 19; (with_reducible refine HT.out.mono ?_); rintro e w1 ⟨rfl, hb⟩; have HB1 := Lib.hid hb; clear hb)
    go_ret2
    exact ⟨_, rfl, HNil.out _, HA.out.trans (HB1.out.mono HA.out.size)⟩
end Go.Proofs.YtabdgnigmlpeaaaGreatDoor
/- The specification: applied. -/
namespace Go.Proofs.YtabdgnigmlpeaaaGreatDoor
open Go.RowKit

theorem rApp_eq (x : En) (L : List Int) (s : St) : rApp x L s = if s.k = 1 then (if L.contains s.b = true then L else L ++ [s.b]) else if rHold x s.c = true then rApps x L s.th else rApps x L s.el := by
  obtain ⟨k, b, c, th, el⟩ := s
  rw [rApp]; rfl
theorem rApp_len (x : En) (L : List Int) (s : St) (h : okS s = true) : (rApp x L s).length ≤ L.length + szS s := by
  have := appF_len x (formS s) L
  rw [app_form x s L h] at this
  have := nF_formS s
  omega
theorem OwnI.readsI {w : World} {v : Value} {l : List Int} (h : OwnI w 0 v l) (hl : l.length ≤ 1000000) : ReadsI w v l := by
  obtain ⟨p, cap, b, h1, h2, h3, h4, h5⟩ := OwnI.reads h hl
  exact ⟨p, cap, b, h1, hl, h2, h3, h4, h5⟩
set_option maxHeartbeats 8000000 in
set_option maxRecDepth 100000 in
theorem rap : RAp := by
  intro w0 Q ss p cap h
  induction h with
  | mk ss p cap b off X hl hc hc2 hp hb hcell hcd hth hel ih1 ih2 =>
    intro hok x W l v hW hown hlen
    have hA := (Below.refl W.heap.size W).alloc (Nat.le_refl _) (.cells #[.int .i64 x.d, .int .i64 x.f, .int .i64 x.s] 42)
    have HA := Lib.hid hA
    have HB0 := Lib.hid (Below.refl (W.alloc (.cells #[.int .i64 x.d, .int .i64 x.f, .int .i64 x.s] 42)).heap.size (W.alloc (.cells #[.int .i64 x.d, .int .i64 x.f, .int .i64 x.s] 42)))
    have HX : Hid (∀ w', Below (W.alloc (.cells #[.int .i64 x.d, .int .i64 x.f, .int .i64 x.s] 42)).heap.size (W.alloc (.cells #[.int .i64 x.d, .int .i64 x.f, .int .i64 x.s] 42)) w' → w'.cell? ⟨W.heap.size, 0, none⟩ = some (.int .i64 x.d) ∧ w'.cell? ⟨W.heap.size, 1, none⟩ = some (.int .i64 x.f) ∧ w'.cell? ⟨W.heap.size, 2, none⟩ = some (.int .i64 x.s)) := Lib.hid fun w' hb => ⟨keepc hb (by simp [go_sem]), keepc hb (by simp [go_sem]), keepc hb (by simp [go_sem])⟩
    have HO0 := Lib.hid (hown.bel hA)
    have HE : Hid (∀ w', Below W.heap.size W w' → ∀ j (h : j < ss.length), p = some ⟨b, off, none⟩ ∧ (∀ i u, (cellsS ss[j] (X j))[i]? = some u → w'.cell? ⟨b, off + j * 8 + i, none⟩ = some u)) := Lib.hid fun w' hb' j hj =>
      ⟨(hb (by rintro rfl; simp at hj)).1, fun i u hu => keepc (hW.trans (hb'.mono hW.size)) (hcell j hj i u hu)⟩
    have hall : ∀ j (h : j < ss.length), okS ss[j] = true := by
      have hh : ∀ (l : List St), okSs l = true → ∀ j (h : j < l.length), okS l[j] = true := fun l => by
        induction l with
        | nil => intro _ j h; simp at h
        | cons s l ih =>
          intro ho j h
          rw [okSs, Bool.and_eq_true] at ho
          cases j with
          | zero => exact ho.1
          | succ j => exact ih ho.2 j (by simpa using h)
      exact hh ss hok
    have HOK := Lib.hid hall
    have HK1 : Hid (∀ j (h : j < ss.length), okSs ss[j].th = true → ∀ W' L v, Below W.heap.size W W' → OwnI W' 0 v L → L.length + szSs ss[j].th ≤ 1000000 → Calls Tryz.prog 116 #[.slice (X j).pt ss[j].th.length (X j).ct, envV x, v] W' fun e w' => ∃ v', e = .returned v' ∧ OwnI w' 0 v' (rApps x L ss[j].th) ∧ Below W'.heap.size W' w') := Lib.hid fun j hj ho W' L v hb' hw hn => ih1 j hj ho x W' L v (hW.trans (hb'.mono hW.size)) hw hn
    have HK2 : Hid (∀ j (h : j < ss.length), okSs ss[j].el = true → ∀ W' L v, Below W.heap.size W W' → OwnI W' 0 v L → L.length + szSs ss[j].el ≤ 1000000 → Calls Tryz.prog 116 #[.slice (X j).pe ss[j].el.length (X j).ce, envV x, v] W' fun e w' => ∃ v', e = .returned v' ∧ OwnI w' 0 v' (rApps x L ss[j].el) ∧ Below W'.heap.size W' w') := Lib.hid fun j hj ho W' L v hb' hw hn => ih2 j hj ho x W' L v (hW.trans (hb'.mono hW.size)) hw hn
    have HK3 : Hid (∀ j (h : j < ss.length), okC ss[j].c = true → ∀ W', Below W.heap.size W W' → Calls Tryz.prog 55 #[cV ss[j].c (X j).pc (X j).cc, envV x] W' fun e w' => e = .returned (.bool (rHold x ss[j].c)) ∧ Below W'.heap.size W' w') := Lib.hid fun j hj ho W' hb' => rholds_any x (hcd j hj) ho W' (hW.trans (hb'.mono hW.size))
    obtain ⟨T, hT⟩ : ∃ T, rApps x l ss = T := ⟨_, rfl⟩
    rw [hT]
    have H0 : Hid (rApps x l (ss.drop 0) = T ∧ l.length + szSs (ss.drop 0) ≤ 1000000) := Lib.hid (by rw [List.drop_zero]; exact ⟨hT, hlen⟩)
    obtain ⟨pv, cv, rfl⟩ := hown.shape
    clear ih1 ih2 hcd hth hel hcell hb hW hT hall hok hlen hown hA
    unfold envV at *
    go_enter Tryz.func116, Tryz.ntmps116
    go_wp2_with fail
    go_loopw [2, 7] (fun v i wr => ∃ (j : Nat) (L : List Int) (q : Option Addr) (c : Nat), j ≤ ss.length ∧ i = .int .i64 j ∧ v = .slice q L.length c ∧ Hid (OwnI wr 0 (.slice q L.length c) L) ∧ Hid (rApps x L (ss.drop j) = T ∧ L.length + szSs (ss.drop j) ≤ 1000000) ∧ Hid (Below (W.alloc (.cells #[.int .i64 x.d, .int .i64 x.f, .int .i64 x.s] 42)).heap.size (W.alloc (.cells #[.int .i64 x.d, .int .i64 x.f, .int .i64 x.s] 42)) wr)) (fun _ i _ => ss.length - (intOf i).toNat)
    case atStart => exact ⟨0, l, pv, cv, Nat.zero_le _, rfl, rfl, HO0, H0, HB0⟩
    case round =>
      obtain ⟨j, L, q, c, hj, rfl, rfl, HO, HI, HB⟩ := hrel
      clear H0 HB0 HO0
      by_cases hlt : j < ss.length
      · have hji : (j : Int) < (ss.length : Int) := by omega
        have hWr := HA.out.trans (HB.out.mono HA.out.size)
        obtain ⟨rfl, hcc⟩ := HE.out _ hWr j hlt
        obtain ⟨y0, y1, y2⟩ := HX.out wr HB.out
        have hs := HOK.out j hlt
        have hI := HI.out
        rw [(List.getElem_cons_drop hlt).symm, rApps, szSs] at hI
        have hlenA := rApp_len x L ss[j] hs
        have hszj : szS ss[j] = 1 + szSs ss[j].th + szSs ss[j].el := by
          cases ss[j] with
          | mk k b c th el => rw [szS]; rfl
        have HStep : Hid (rApps x (rApp x L ss[j]) (ss.drop (j + 1)) = T ∧ (rApp x L ss[j]).length + szSs (ss.drop (j + 1)) ≤ 1000000) := Lib.hid ⟨hI.1, by omega⟩
        have hLl : L.length ≤ 1000000 := by omega
        rw [rApp_eq] at HStep
        rw [okS_eq] at hs
        have HI1 := Lib.hid (HK1.out j hlt)
        have HI2 := Lib.hid (HK2.out j hlt)
        have HI3 := Lib.hid (HK3.out j hlt)
        have hb1 : L.length + szSs ss[j].th ≤ 1000000 := by omega
        have hb2 : L.length + szSs ss[j].el ≤ 1000000 := by omega
        have hrc := okC_of ss[j].c
        have z0 := hcc 0 _ rfl
        have z1 := hcc 1 _ rfl
        have z2 := hcc 2 _ rfl
        have z3 := hcc 3 _ rfl
        have z4 := hcc 4 _ rfl
        have z5 := hcc 5 _ rfl
        have z6 := hcc 6 _ rfl
        have z7 := hcc 7 _ rfl
        clear hcc HE HI HK1 HK2 HK3 HOK hI hlenA hszj
        unfold cV at HI3
        generalize rHold x ss[j].c = qh at *
        generalize okSs ss[j].th = o1 at *
        generalize okSs ss[j].el = o2 at *
        generalize okC ss[j].c = oc at *
        generalize rCond ss[j].c = rc at *
        generalize noB ss[j].c = nb at *
        generalize ss[j].k = xk at *
        generalize ss[j].b = xb at *
        generalize ss[j].c.k = x1 at *
        generalize ss[j].c.v = x2 at *
        generalize ss[j].c.n = x3 at *
        generalize ss[j].c.ps.length = x4 at *
        generalize ss[j].th.isEmpty = e1 at *
        generalize ss[j].el.isEmpty = e2 at *
        generalize szSs ss[j].th = s1 at *
        generalize szSs ss[j].el = s2 at *
        generalize ss[j].th.length = x5 at *
        generalize ss[j].el.length = x6 at *
        generalize X j = xj at *
        obtain ⟨pc, cc, pt, ct, pe, ce⟩ := xj
        simp only [Nat.add_zero] at *
        have hAs := (Below.refl wr.heap.size wr).alloc (Nat.le_refl _) (.cells #[.int .i64 xk, .int .i64 xb, .int .i64 x1, .int .i64 x2, .int .i64 x3, .slice pc x4 cc, .slice pt x5 ct, .slice pe x6 ce] 84)
        have HBs := Lib.hid (HB.out.trans (hAs.mono HB.out.size))
        have HOs := Lib.hid (HO.out.bel hAs)
        have HWs := Lib.hid (hWr.trans (hAs.mono hWr.size))
        have HC2 : Hid (∀ w', Below (wr.alloc (.cells #[.int .i64 xk, .int .i64 xb, .int .i64 x1, .int .i64 x2, .int .i64 x3, .slice pc x4 cc, .slice pt x5 ct, .slice pe x6 ce] 84)).heap.size (wr.alloc (.cells #[.int .i64 xk, .int .i64 xb, .int .i64 x1, .int .i64 x2, .int .i64 x3, .slice pc x4 cc, .slice pt x5 ct, .slice pe x6 ce] 84)) w' → w'.cell? ⟨wr.heap.size, 0, none⟩ = some (.int .i64 xk) ∧ w'.cell? ⟨wr.heap.size, 1, none⟩ = some (.int .i64 xb) ∧ w'.cell? ⟨wr.heap.size, 2, none⟩ = some (.int .i64 x1) ∧ w'.cell? ⟨wr.heap.size, 3, none⟩ = some (.int .i64 x2) ∧ w'.cell? ⟨wr.heap.size, 4, none⟩ = some (.int .i64 x3) ∧ w'.cell? ⟨wr.heap.size, 5, none⟩ = some (.slice pc x4 cc) ∧ w'.cell? ⟨wr.heap.size, 6, none⟩ = some (.slice pt x5 ct) ∧ w'.cell? ⟨wr.heap.size, 7, none⟩ = some (.slice pe x6 ce) ∧ w'.cell? ⟨W.heap.size, 0, none⟩ = some (.int .i64 x.d) ∧ w'.cell? ⟨W.heap.size, 1, none⟩ = some (.int .i64 x.f) ∧ w'.cell? ⟨W.heap.size, 2, none⟩ = some (.int .i64 x.s)) := Lib.hid fun w' hb' =>
          have h3 := HX.out w' (HBs.out.trans (hb'.mono HBs.out.size))
          ⟨keepc hb' (by simp [go_sem]), keepc hb' (by simp [go_sem]), keepc hb' (by simp [go_sem]), keepc hb' (by simp [go_sem]), keepc hb' (by simp [go_sem]), keepc hb' (by simp [go_sem]), keepc hb' (by simp [go_sem]), keepc hb' (by simp [go_sem]), h3.1, h3.2.1, h3.2.2⟩
        have hWlt : W.heap.size < wr.heap.size := by have := HB.out.size; simp only [World.size_alloc] at this; omega
        have a0 := keepc hAs y0
        have a1 := keepc hAs y1
        have a2 := keepc hAs y2
        clear hAs hWr HX
        by_cases hk : xk = 1
        · subst hk
          rw [if_pos rfl] at HStep
          have HIn := Lib.hid (rin_any L xb _ _ (HOs.out.readsI hLl))
          clear hs HI1 HI2 HI3 hrc
          cases hq : L.contains xb with
          | true =>
            rw [if_pos hq] at HStep
            rw [hq] at HIn
            clear hq
            go_wp2_with (go_at_call 31; (with_reducible refine HIn.out.mono ?_); rintro e w1 ⟨rfl, hb⟩; have HO1 := Lib.hid (HOs.out.bel hb); have HB1 := Lib.hid (HBs.out.trans (hb.mono HBs.out.size)); clear hb)
            go_round
            case rel => exact ⟨j + 1, L, q, c, by omega, by go_num, rfl, HO1, HStep, HB1⟩
            case measure => simp [intOf]; omega
          | false =>
            rw [if_neg (by rw [hq]; decide)] at HStep
            rw [hq] at HIn
            clear hq
            go_wp2_with (go_at_call 31; (with_reducible refine HIn.out.mono ?_); rintro e w1 ⟨rfl, hb⟩; have HO1 := Lib.hid (HOs.out.bel hb); have HW1 := Lib.hid hb; have HB1 := Lib.hid (HBs.out.trans (hb.mono HBs.out.size)); obtain ⟨u0, u1, u2, u3, u4, u5, u6, u7, u8, u9, u10⟩ := HC2.out w1 hb; obtain ⟨-, a1', -⟩ := HC2.out (w1.alloc (.cells #[] 3)) (hb.alloc hb.size _); clear hb)
            go_region_law (first
              | (refine step_copyI rfl _ _ rfl w1.heap.size (.slice (some ⟨w1.heap.size, 0, none⟩) 0 0) [] (by first | exact own1 _ _ _ (by simp) (by simp) | exact (own1 _ _ _ (by simp) (by simp)).drewI | exact (own1 _ _ _ (by simp) (by simp)).allocI _ | exact (own1 _ _ _ (by simp) (by simp)).drewI.drewI | exact ((own1 _ _ _ (by simp) (by simp)).allocI _).drewI | exact (own1 _ _ _ (by simp) (by simp)).drewI.allocI _) rfl 0 (.slice q L.length c) L (OwnI.bel HO1.out (by repeat (first | exact Below.refl _ _ | refine Below.drew ?_ | refine Below.alloc ?_ (by simp <;> omega) _))) rfl (by simp; omega) (by simp <;> omega) ?_
                 intro v2 w5 ho5 hg5 hb5
                 rw [List.nil_append] at ho5
                 have HB5 := Lib.hid (below_in HW1.out (by repeat (first | exact Below.refl _ _ | refine Below.drew ?_ | refine Below.alloc ?_ (by simp <;> omega) _)) hb5)
                 have HG5 := Lib.hid hg5
                 have HO5 := Lib.hid ho5
                 have hs5 : w1.heap.size ≤ w5.heap.size := Nat.le_trans (by simp <;> omega) hb5.size
                 obtain ⟨u0', u1', u2', u3', u4', u5', u6', u7', u8', u9', u10'⟩ := HC2.out w5 HB5.out
                 clear ho5 hg5 hb5)
              | (refine step_copyI rfl _ _ rfl w1.heap.size (.slice (some ⟨w1.heap.size + 1, 0, none⟩) 0 0) [] (by first | exact own1 _ _ _ (by simp) (by simp) | exact (own1 _ _ _ (by simp) (by simp)).drewI | exact (own1 _ _ _ (by simp) (by simp)).allocI _ | exact (own1 _ _ _ (by simp) (by simp)).drewI.drewI | exact ((own1 _ _ _ (by simp) (by simp)).allocI _).drewI | exact (own1 _ _ _ (by simp) (by simp)).drewI.allocI _) rfl 0 (.slice q L.length c) L (OwnI.bel HO1.out (by repeat (first | exact Below.refl _ _ | refine Below.drew ?_ | refine Below.alloc ?_ (by simp <;> omega) _))) rfl (by simp; omega) (by simp <;> omega) ?_
                 intro v2 w5 ho5 hg5 hb5
                 rw [List.nil_append] at ho5
                 have HB5 := Lib.hid (below_in HW1.out (by repeat (first | exact Below.refl _ _ | refine Below.drew ?_ | refine Below.alloc ?_ (by simp <;> omega) _)) hb5)
                 have HG5 := Lib.hid hg5
                 have HO5 := Lib.hid ho5
                 have hs5 : w1.heap.size ≤ w5.heap.size := Nat.le_trans (by simp <;> omega) hb5.size
                 obtain ⟨u0', u1', u2', u3', u4', u5', u6', u7', u8', u9', u10'⟩ := HC2.out w5 HB5.out
                 clear ho5 hg5 hb5)
              | (refine step_pushI rfl _ _ rfl w1.heap.size _ L (OwnI.bel HO5.out (by repeat (first | exact Below.refl _ _ | refine Below.drew ?_ | refine Below.alloc ?_ (by simp <;> omega) _))) rfl _ _ rfl xb (by first | (simp [go_sem]; done) | exact keepg HG5.out (by simp [Value.ownBlock]) (by simp [go_sem])) (by omega) (by first | omega | (simp <;> omega)) ?_
                 intro v3 w6 ho6 hg6 hb6
                 have HO6 := Lib.hid ho6
                 have HB6 := Lib.hid (below_in2 HB5.out HW1.out.size (by repeat (first | exact Below.refl _ _ | refine Below.drew ?_ | refine Below.alloc ?_ (by simp <;> omega) _)) hb6)
                 clear ho6 hg6 hb6))
            all_goals
              obtain ⟨q6, c6, rfl⟩ := HO6.out.shape
              have HBr := Lib.hid (HBs.out.trans (HB6.out.mono HBs.out.size))
              have HOr := Lib.hid HO6.out.low
              clear HO6 HB6
              go_wp2_with fail
              go_round
              case rel => exact ⟨j + 1, L ++ [xb], q6, c6, by omega, by go_num, by rw [List.length_append]; rfl, HOr, HStep, HBr⟩
              case measure => simp [intOf]; omega
        · rw [if_neg hk] at HStep hs
          have hk2 : xk = 2 := by
            by_cases h : xk = 2
            · exact h
            · rw [if_neg h] at hs; cases hs
          subst hk2
          rw [if_pos rfl] at hs
          simp only [Bool.and_eq_true, decide_eq_true_eq] at hs
          obtain ⟨-, h2, -, h3, h4⟩ := hs
          have HI3' := Lib.hid (HI3.out (hrc h2) _ HWs.out)
          have HI1' := Lib.hid (HI1.out h3)
          have HI2' := Lib.hid (HI2.out h4)
          clear hrc h2 h3 h4 HI1 HI2 HI3 hk
          cases qh
          all_goals
            simp only [Bool.false_eq_true, if_false, if_true] at HStep
            go_wp2_with (first
              | (go_at_call 55; (with_reducible refine HI3'.out.mono ?_); rintro e w1 ⟨rfl, hb⟩; have HR1 := Lib.hid hb; have HO1 := Lib.hid (HOs.out.bel hb); have HB1 := Lib.hid (HBs.out.trans (hb.mono HBs.out.size)); have HW1 := Lib.hid (HWs.out.trans (hb.mono HWs.out.size)); obtain ⟨u0, u1, u2, u3, u4, u5, u6, u7, u8, u9, u10⟩ := HC2.out w1 hb; clear hb)
              | (go_at_call 116; (with_reducible refine (HI1'.out _ _ _ HW1.out HO1.out hb1).mono ?_); rintro e w2 ⟨v', rfl, ho, hb⟩; obtain ⟨q9, c9, rfl⟩ := ho.shape; have HO2 := Lib.hid ho; have HB2 := Lib.hid (HB1.out.trans (hb.mono HB1.out.size)); clear ho hb)
              | (go_at_call 116; (with_reducible refine (HI2'.out _ _ _ HW1.out HO1.out hb2).mono ?_); rintro e w2 ⟨v', rfl, ho, hb⟩; obtain ⟨q9, c9, rfl⟩ := ho.shape; have HO2 := Lib.hid ho; have HB2 := Lib.hid (HB1.out.trans (hb.mono HB1.out.size)); clear ho hb))
            go_round
            case rel => exact ⟨j + 1, _, q9, c9, by omega, by go_num, rfl, HO2, HStep, HB2⟩
            case measure => simp [intOf]; omega
      · have hji : ¬ (j : Int) < (ss.length : Int) := by omega
        have hT : L = T := by
          have := HI.out.1
          rw [List.drop_of_length_le (by omega), rApps] at this
          exact this
        subst hT
        clear HE HI HK1 HK2 HK3 HOK
        go_wp2_with fail
        go_ret
        exact ⟨_, rfl, HO.out, HA.out.trans (HB.out.mono HA.out.size)⟩
end Go.Proofs.YtabdgnigmlpeaaaGreatDoor
