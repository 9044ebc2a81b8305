/- The specification: a condition holds. -/
import Derived.Test.YtabdgnigmlpeaaaGreatDoorTRef5
import Derived.Deep.RegionHeld3
namespace Go.Proofs.YtabdgnigmlpeaaaGreatDoor
open Go.RowKit

set_option maxHeartbeats 2000000 in
theorem rvalue_any (v : Int) (hv : 1 ≤ v ∧ v ≤ 3) (x : En) (w : World) :
    Calls Tryz.prog 122 #[.int .i64 v, envV x] w fun e w' => e = .returned (.int .i64 (valE v x)) ∧ Below w.heap.size w w' := by
  have HA := Lib.hid ((Below.refl w.heap.size w).alloc (Nat.le_refl _) (.cells #[.int .i64 x.d, .int .i64 x.f, .int .i64 x.s] 42))
  obtain ⟨d, f, s⟩ := x
  unfold envV
  simp only at *
  have h3 : v = 1 ∨ v = 2 ∨ v = 3 := by omega
  rcases h3 with rfl | rfl | rfl
  all_goals
    go_enter Tryz.func122, Tryz.ntmps122
    go_wp2_with fail
    go_ret
    exact ⟨rfl, HA.out⟩

theorem held7 {W w' : World} {A B C D E F G : Prop} (h : A ∧ B ∧ C ∧ D ∧ E ∧ F ∧ G ∧ Hid (Below W.heap.size W w')) : Below W.heap.size W w' := h.2.2.2.2.2.2.2.out
set_option maxHeartbeats 8000000 in
set_option maxRecDepth 100000 in
theorem rhold_1 (v n : Int) (p : Option Addr) (len cap : Nat) (hv : 1 ≤ v ∧ v ≤ 3) (x : En) (W : World) :
    Calls Tryz.prog 55 #[.agg #[.int .i64 1, .int .i64 v, .int .i64 n, .slice p len cap], envV x] W fun e w' => e = .returned (.bool (decide (n ≤ valE v x))) ∧ Below W.heap.size W w' := by
  have hA := (Below.refl W.heap.size W).alloc (Nat.le_refl _) (.cells #[.int .i64 1, .int .i64 v, .int .i64 n, .slice p len cap] 40)
  have HA := Lib.hid (hA.alloc hA.size (.cells #[.int .i64 x.d, .int .i64 x.f, .int .i64 x.s] 42))
  have HX : Hid (∀ w', Below ((W.alloc (.cells #[.int .i64 1, .int .i64 v, .int .i64 n, .slice p len cap] 40)).alloc (.cells #[.int .i64 x.d, .int .i64 x.f, .int .i64 x.s] 42)).heap.size ((W.alloc (.cells #[.int .i64 1, .int .i64 v, .int .i64 n, .slice p len cap] 40)).alloc (.cells #[.int .i64 x.d, .int .i64 x.f, .int .i64 x.s] 42)) w' →
      w'.cell? ⟨W.heap.size, 0, none⟩ = some (.int .i64 1) ∧ w'.cell? ⟨W.heap.size, 1, none⟩ = some (.int .i64 v) ∧ w'.cell? ⟨W.heap.size, 2, none⟩ = some (.int .i64 n) ∧ w'.cell? ⟨W.heap.size, 3, none⟩ = some (.slice p len cap) ∧ w'.cell? ⟨W.heap.size + 1, 0, none⟩ = some (.int .i64 x.d) ∧ w'.cell? ⟨W.heap.size + 1, 1, none⟩ = some (.int .i64 x.f) ∧ w'.cell? ⟨W.heap.size + 1, 2, none⟩ = some (.int .i64 x.s) ∧ Hid (Below ((W.alloc (.cells #[.int .i64 1, .int .i64 v, .int .i64 n, .slice p len cap] 40)).alloc (.cells #[.int .i64 x.d, .int .i64 x.f, .int .i64 x.s] 42)).heap.size ((W.alloc (.cells #[.int .i64 1, .int .i64 v, .int .i64 n, .slice p len cap] 40)).alloc (.cells #[.int .i64 x.d, .int .i64 x.f, .int .i64 x.s] 42)) w')) := Lib.hid fun w' hb =>
    ⟨keepc hb (by simp [go_sem]), keepc hb (by simp [go_sem]), keepc hb (by simp [go_sem]), keepc hb (by simp [go_sem]), keepc hb (by simp [go_sem]), keepc hb (by simp [go_sem]), keepc hb (by simp [go_sem]), Lib.hid hb⟩
  have HV : Hid (∀ W2 w1 : World, Below W2.heap.size W2 w1 → Calls Tryz.prog 122 #[.int .i64 v, envV x] w1 fun e w' => e = .returned (.int .i64 (valE v x)) ∧ Hid (Below W2.heap.size W2 w')) := Lib.hid fun W2 w1 hb => (rvalue_any v hv x w1).mono fun e w' hr => ⟨hr.1, Lib.hid (hb.trans (hr.2.mono hb.size))⟩
  clear hv hA
  unfold envV at *
  generalize valE v x = q at *
  obtain ⟨d, f, s⟩ := x
  simp only at *
  go_enter Tryz.func55, Tryz.ntmps55
  go_wp2_with fail
  generalize (W.alloc (.cells #[.int .i64 1, .int .i64 v, .int .i64 n, .slice p len cap] 40)).alloc (.cells #[.int .i64 d, .int .i64 f, .int .i64 s] 42) = W2 at *
  obtain ⟨y0, y1, y2, y3, y4, y5, y6, -⟩ := HX.out W2 (Below.refl _ _)
  go_region_held3 (fun w' => w'.cell? ⟨W.heap.size, 0, none⟩ = some (.int .i64 1) ∧ w'.cell? ⟨W.heap.size, 1, none⟩ = some (.int .i64 v) ∧ w'.cell? ⟨W.heap.size, 2, none⟩ = some (.int .i64 n) ∧ w'.cell? ⟨W.heap.size, 3, none⟩ = some (.slice p len cap) ∧ w'.cell? ⟨W.heap.size + 1, 0, none⟩ = some (.int .i64 d) ∧ w'.cell? ⟨W.heap.size + 1, 1, none⟩ = some (.int .i64 f) ∧ w'.cell? ⟨W.heap.size + 1, 2, none⟩ = some (.int .i64 s) ∧ Hid (Below W2.heap.size W2 w'))
    (first
      | with_reducible exact HX.out _ (Below.refl _ _).drew
      | with_reducible exact HX.out _ (Below.refl _ _)
      | with_reducible exact HX.out _ hb1.out
      | assumption | go_keep)
    ((go_at_call 122; with_reducible refine (HV.out W2 _ (held7 (W := W2) (by assumption))).mono ?_; rintro e w' ⟨rfl, hb1⟩))
  all_goals
    go_wp2_with fail
    go_ret
    exact ⟨rfl, HA.out.trans (hb1.out.mono HA.out.size)⟩

theorem held11 {W w' : World} {A B C D E F G H I J K : Prop} (h : A ∧ B ∧ C ∧ D ∧ E ∧ F ∧ G ∧ H ∧ I ∧ J ∧ K ∧ Hid (Below W.heap.size W w')) : Below W.heap.size W w' := h.2.2.2.2.2.2.2.2.2.2.2.out
set_option maxHeartbeats 8000000 in
set_option maxRecDepth 100000 in
theorem rhold_4 (v n : Int) (b off len cap : Nat) (hlen : 0 < len) (_ : len ≤ cap) (_ : cap ≤ 9223372036854775807) (x1 x2 x3 : Int) (q1 : Option Addr) (l1 c1 : Nat) (q : Bool) (x : En) (W : World)
    (hcell : ∀ w', Below W.heap.size W w' → w'.cell? ⟨b, off, none⟩ = some (.int .i64 x1) ∧ w'.cell? ⟨b, off + 1, none⟩ = some (.int .i64 x2) ∧ w'.cell? ⟨b, off + 2, none⟩ = some (.int .i64 x3) ∧ w'.cell? ⟨b, off + 3, none⟩ = some (.slice q1 l1 c1))
    (hcall : ∀ w', Below W.heap.size W w' → Calls Tryz.prog 55 #[.agg #[.int .i64 x1, .int .i64 x2, .int .i64 x3, .slice q1 l1 c1], envV x] w' fun e w2 => e = .returned (.bool q) ∧ Below w'.heap.size w' w2) :
    Calls Tryz.prog 55 #[.agg #[.int .i64 4, .int .i64 v, .int .i64 n, .slice (some ⟨b, off, none⟩) len cap], envV x] W fun e w' => e = .returned (.bool (!q)) ∧ Below W.heap.size W w' := by
  have hA := (Below.refl W.heap.size W).alloc (Nat.le_refl _) (.cells #[.int .i64 4, .int .i64 v, .int .i64 n, .slice (some ⟨b, off, none⟩) len cap] 40)
  have hA2 := hA.alloc hA.size (.cells #[.int .i64 x.d, .int .i64 x.f, .int .i64 x.s] 42)
  have HA := Lib.hid hA2
  have HX : Hid (∀ w', Below ((W.alloc (.cells #[.int .i64 4, .int .i64 v, .int .i64 n, .slice (some ⟨b, off, none⟩) len cap] 40)).alloc (.cells #[.int .i64 x.d, .int .i64 x.f, .int .i64 x.s] 42)).heap.size ((W.alloc (.cells #[.int .i64 4, .int .i64 v, .int .i64 n, .slice (some ⟨b, off, none⟩) len cap] 40)).alloc (.cells #[.int .i64 x.d, .int .i64 x.f, .int .i64 x.s] 42)) w' →
      w'.cell? ⟨W.heap.size, 0, none⟩ = some (.int .i64 4) ∧ w'.cell? ⟨W.heap.size, 1, none⟩ = some (.int .i64 v) ∧ w'.cell? ⟨W.heap.size, 2, none⟩ = some (.int .i64 n) ∧ w'.cell? ⟨W.heap.size, 3, none⟩ = some (.slice (some ⟨b, off, none⟩) len cap) ∧ w'.cell? ⟨W.heap.size + 1, 0, none⟩ = some (.int .i64 x.d) ∧ w'.cell? ⟨W.heap.size + 1, 1, none⟩ = some (.int .i64 x.f) ∧ w'.cell? ⟨W.heap.size + 1, 2, none⟩ = some (.int .i64 x.s) ∧ w'.cell? ⟨b, off, none⟩ = some (.int .i64 x1) ∧ w'.cell? ⟨b, off + 1, none⟩ = some (.int .i64 x2) ∧ w'.cell? ⟨b, off + 2, none⟩ = some (.int .i64 x3) ∧ w'.cell? ⟨b, off + 3, none⟩ = some (.slice q1 l1 c1) ∧ Hid (Below ((W.alloc (.cells #[.int .i64 4, .int .i64 v, .int .i64 n, .slice (some ⟨b, off, none⟩) len cap] 40)).alloc (.cells #[.int .i64 x.d, .int .i64 x.f, .int .i64 x.s] 42)).heap.size ((W.alloc (.cells #[.int .i64 4, .int .i64 v, .int .i64 n, .slice (some ⟨b, off, none⟩) len cap] 40)).alloc (.cells #[.int .i64 x.d, .int .i64 x.f, .int .i64 x.s] 42)) w')) := Lib.hid fun w' hb =>
    have h4 := hcell w' (hA2.trans (hb.mono hA2.size))
    ⟨keepc hb (by simp [go_sem]), keepc hb (by simp [go_sem]), keepc hb (by simp [go_sem]), keepc hb (by simp [go_sem]), keepc hb (by simp [go_sem]), keepc hb (by simp [go_sem]), keepc hb (by simp [go_sem]), h4.1, h4.2.1, h4.2.2.1, h4.2.2.2, Lib.hid hb⟩
  have HV : Hid (∀ W2 w1 : World, Below W.heap.size W W2 → Below W2.heap.size W2 w1 → Calls Tryz.prog 55 #[.agg #[.int .i64 x1, .int .i64 x2, .int .i64 x3, .slice q1 l1 c1], envV x] w1 fun e w' => e = .returned (.bool q) ∧ Hid (Below W2.heap.size W2 w')) := Lib.hid fun W2 w1 h2 hb => (hcall w1 (h2.trans (hb.mono h2.size))).mono fun e w' hr => ⟨hr.1, Lib.hid (hb.trans (hr.2.mono hb.size))⟩
  have hli : (0 : Int) < (len : Int) := by omega
  clear hA hA2 hcell hcall
  unfold envV at *
  obtain ⟨d, f, s⟩ := x
  simp only at *
  go_enter Tryz.func55, Tryz.ntmps55
  go_wp2_with fail
  generalize (W.alloc (.cells #[.int .i64 4, .int .i64 v, .int .i64 n, .slice (some ⟨b, off, none⟩) len cap] 40)).alloc (.cells #[.int .i64 d, .int .i64 f, .int .i64 s] 42) = W2 at *
  obtain ⟨y0, y1, y2, y3, y4, y5, y6, y7, y8, y9, y10, -⟩ := HX.out W2 (Below.refl _ _)
  go_region_held3 (fun w' => w'.cell? ⟨W.heap.size, 0, none⟩ = some (.int .i64 4) ∧ w'.cell? ⟨W.heap.size, 1, none⟩ = some (.int .i64 v) ∧ w'.cell? ⟨W.heap.size, 2, none⟩ = some (.int .i64 n) ∧ w'.cell? ⟨W.heap.size, 3, none⟩ = some (.slice (some ⟨b, off, none⟩) len cap) ∧ w'.cell? ⟨W.heap.size + 1, 0, none⟩ = some (.int .i64 d) ∧ w'.cell? ⟨W.heap.size + 1, 1, none⟩ = some (.int .i64 f) ∧ w'.cell? ⟨W.heap.size + 1, 2, none⟩ = some (.int .i64 s) ∧ w'.cell? ⟨b, off, none⟩ = some (.int .i64 x1) ∧ w'.cell? ⟨b, off + 1, none⟩ = some (.int .i64 x2) ∧ w'.cell? ⟨b, off + 2, none⟩ = some (.int .i64 x3) ∧ w'.cell? ⟨b, off + 3, none⟩ = some (.slice q1 l1 c1) ∧ Hid (Below W2.heap.size W2 w'))
    (first
      | with_reducible exact HX.out _ (Below.refl _ _).drew
      | with_reducible exact HX.out _ (Below.refl _ _)
      | with_reducible exact HX.out _ hb1.out
      | assumption | go_keep)
    ((go_at_call 55; with_reducible refine (HV.out W2 _ HA.out (held11 (W := W2) (by assumption))).mono ?_; rintro e w' ⟨rfl, hb1⟩))
  all_goals
    go_wp2_with fail
    go_ret
    exact ⟨rfl, HA.out.trans (hb1.out.mono HA.out.size)⟩
end Go.Proofs.YtabdgnigmlpeaaaGreatDoor
/- The specification: a condition holds: all of, one of. -/
namespace Go.Proofs.YtabdgnigmlpeaaaGreatDoor
open Go.RowKit

set_option maxHeartbeats 8000000 in
set_option maxRecDepth 100000 in
theorem rhold_2 (v n : Int) (ps : List Cd) (p : Option Addr) (b off cap : Nat) (P : Nat → Option Addr) (C : Nat → Nat) (hl : ps.length ≤ 3000000000000) (hlc : ps.length ≤ cap) (_ : cap ≤ 9223372036854775807) (hp : ps ≠ [] → p = some ⟨b, off, none⟩) (x : En) (W : World)
    (hcell : ∀ w', Below W.heap.size W w' → ∀ j (h : j < ps.length), w'.cell? ⟨b, off + j * 4, none⟩ = some (.int .i64 ps[j].k) ∧ w'.cell? ⟨b, off + j * 4 + 1, none⟩ = some (.int .i64 ps[j].v) ∧ w'.cell? ⟨b, off + j * 4 + 2, none⟩ = some (.int .i64 ps[j].n) ∧ w'.cell? ⟨b, off + j * 4 + 3, none⟩ = some (.slice (P j) ps[j].ps.length (C j)))
    (hcall : ∀ w', Below W.heap.size W w' → ∀ j (h : j < ps.length), Calls Tryz.prog 55 #[cV ps[j] (P j) (C j), envV x] w' fun e w2 => e = .returned (.bool (rHold x ps[j])) ∧ Below w'.heap.size w' w2) :
    Calls Tryz.prog 55 #[.agg #[.int .i64 2, .int .i64 v, .int .i64 n, .slice p ps.length cap], envV x] W fun e w' => e = .returned (.bool (rHoldA x ps)) ∧ Below W.heap.size W w' := by
  have hA := (Below.refl W.heap.size W).alloc (Nat.le_refl _) (.cells #[.int .i64 2, .int .i64 v, .int .i64 n, .slice p ps.length cap] 40)
  have hA2 := hA.alloc hA.size (.cells #[.int .i64 x.d, .int .i64 x.f, .int .i64 x.s] 42)
  have HA := Lib.hid hA2
  have HB0 := Lib.hid (Below.refl ((W.alloc (.cells #[.int .i64 2, .int .i64 v, .int .i64 n, .slice p ps.length cap] 40)).alloc (.cells #[.int .i64 x.d, .int .i64 x.f, .int .i64 x.s] 42)).heap.size ((W.alloc (.cells #[.int .i64 2, .int .i64 v, .int .i64 n, .slice p ps.length cap] 40)).alloc (.cells #[.int .i64 x.d, .int .i64 x.f, .int .i64 x.s] 42)))
  have HX : Hid (∀ w', Below ((W.alloc (.cells #[.int .i64 2, .int .i64 v, .int .i64 n, .slice p ps.length cap] 40)).alloc (.cells #[.int .i64 x.d, .int .i64 x.f, .int .i64 x.s] 42)).heap.size ((W.alloc (.cells #[.int .i64 2, .int .i64 v, .int .i64 n, .slice p ps.length cap] 40)).alloc (.cells #[.int .i64 x.d, .int .i64 x.f, .int .i64 x.s] 42)) w' → w'.cell? ⟨W.heap.size, 0, none⟩ = some (.int .i64 2) ∧ w'.cell? ⟨W.heap.size, 1, none⟩ = some (.int .i64 v) ∧ w'.cell? ⟨W.heap.size, 2, none⟩ = some (.int .i64 n) ∧ w'.cell? ⟨W.heap.size, 3, none⟩ = some (.slice p ps.length cap) ∧ w'.cell? ⟨W.heap.size + 1, 0, none⟩ = some (.int .i64 x.d) ∧ w'.cell? ⟨W.heap.size + 1, 1, none⟩ = some (.int .i64 x.f) ∧ w'.cell? ⟨W.heap.size + 1, 2, none⟩ = some (.int .i64 x.s)) := Lib.hid fun w' hb =>
    ⟨keepc hb (by simp [go_sem]), keepc hb (by simp [go_sem]), keepc hb (by simp [go_sem]), keepc hb (by simp [go_sem]), keepc hb (by simp [go_sem]), keepc hb (by simp [go_sem]), keepc hb (by simp [go_sem])⟩
  have HE : Hid (∀ w', Below W.heap.size W w' → ∀ j (h : j < ps.length), p = some ⟨b, off, none⟩ ∧ w'.cell? ⟨b, off + j * 4, none⟩ = some (.int .i64 ps[j].k) ∧ w'.cell? ⟨b, off + j * 4 + 1, none⟩ = some (.int .i64 ps[j].v) ∧ w'.cell? ⟨b, off + j * 4 + 2, none⟩ = some (.int .i64 ps[j].n) ∧ w'.cell? ⟨b, off + j * 4 + 3, none⟩ = some (.slice (P j) ps[j].ps.length (C j))) := Lib.hid fun w' hb j h => ⟨hp (by rintro rfl; simp at h), hcell w' hb j h⟩
  have HK := Lib.hid hcall
  obtain ⟨T, hT⟩ : ∃ T, rHoldA x ps = T := ⟨_, rfl⟩
  rw [hT]
  have H0 : Hid (rHoldA x (ps.drop 0) = T) := Lib.hid (by rw [List.drop_zero]; exact hT)
  clear hA hA2 hcell hcall hp hT
  unfold envV at *
  go_enter Tryz.func55, Tryz.ntmps55
  go_wp2_with fail
  generalize ((W.alloc (.cells #[.int .i64 2, .int .i64 v, .int .i64 n, .slice p ps.length cap] 40)).alloc (.cells #[.int .i64 x.d, .int .i64 x.f, .int .i64 x.s] 42)) = W2 at *
  go_loopw [5] (fun i wr => ∃ j : Nat, j ≤ ps.length ∧ i = .int .i64 j ∧ Hid (rHoldA x (ps.drop j) = T) ∧ Hid (Below W2.heap.size W2 wr)) (fun i _ => ps.length - (intOf i).toNat)
  case atStart => exact ⟨0, Nat.zero_le _, rfl, H0, HB0⟩
  case round =>
    obtain ⟨j, hj, rfl, HI, HB⟩ := hrel
    clear H0 HB0
    obtain ⟨y0, y1, y2, y3, y4, y5, y6⟩ := HX.out wr HB.out
    by_cases hlt : j < ps.length
    · have hji : (j : Int) < (ps.length : Int) := by omega
      have hW := HA.out.trans (HB.out.mono HA.out.size)
      obtain ⟨rfl, y7, y8, y9, y10⟩ := HE.out wr hW j hlt
      have HX2 : Hid (∀ w', Below wr.heap.size wr w' → w'.cell? ⟨W.heap.size, 0, none⟩ = some (.int .i64 2) ∧ w'.cell? ⟨W.heap.size, 1, none⟩ = some (.int .i64 v) ∧ w'.cell? ⟨W.heap.size, 2, none⟩ = some (.int .i64 n) ∧ w'.cell? ⟨W.heap.size, 3, none⟩ = some (.slice (some ⟨b, off, none⟩) ps.length cap) ∧ w'.cell? ⟨W.heap.size + 1, 0, none⟩ = some (.int .i64 x.d) ∧ w'.cell? ⟨W.heap.size + 1, 1, none⟩ = some (.int .i64 x.f) ∧ w'.cell? ⟨W.heap.size + 1, 2, none⟩ = some (.int .i64 x.s) ∧ w'.cell? ⟨b, off + j * 4, none⟩ = some (.int .i64 ps[j].k) ∧ w'.cell? ⟨b, off + j * 4 + 1, none⟩ = some (.int .i64 ps[j].v) ∧ w'.cell? ⟨b, off + j * 4 + 2, none⟩ = some (.int .i64 ps[j].n) ∧ w'.cell? ⟨b, off + j * 4 + 3, none⟩ = some (.slice (P j) ps[j].ps.length (C j)) ∧ Hid (Below wr.heap.size wr w')) := Lib.hid fun w' hb => by
        obtain ⟨z0, z1, z2, z3, z4, z5, z6⟩ := HX.out w' (HB.out.trans (hb.mono HB.out.size))
        obtain ⟨-, z7, z8, z9, z10⟩ := HE.out w' (hW.trans (hb.mono hW.size)) j hlt
        exact ⟨z0, z1, z2, z3, z4, z5, z6, z7, z8, z9, z10, Lib.hid hb⟩
      have HV : Hid (∀ w1 : World, Below wr.heap.size wr w1 → Calls Tryz.prog 55 #[.agg #[.int .i64 ps[j].k, .int .i64 ps[j].v, .int .i64 ps[j].n, .slice (P j) ps[j].ps.length (C j)], .agg #[.int .i64 x.d, .int .i64 x.f, .int .i64 x.s]] w1 fun e w' => e = .returned (.bool (rHold x ps[j])) ∧ Hid (Below wr.heap.size wr w')) := Lib.hid fun w1 hb => by
        have := HK.out w1 (hW.trans (hb.mono hW.size)) j hlt
        exact this.mono fun e w' hr => ⟨hr.1, Lib.hid (hb.trans (hr.2.mono hb.size))⟩
      have HS1 : Hid (rHold x ps[j] = true → rHoldA x (ps.drop (j + 1)) = T) := Lib.hid fun h => by
        have := HI.out
        rw [(List.getElem_cons_drop hlt).symm, rHoldA, h, Bool.true_and] at this
        exact this
      have HS2 : Hid (rHold x ps[j] = false → T = false) := Lib.hid fun h => by
        have := HI.out
        rw [(List.getElem_cons_drop hlt).symm, rHoldA, h, Bool.false_and] at this
        exact this.symm
      clear HX HE HK HI hW
      generalize rHold x ps[j] = q at *
      generalize ps[j].k = x1 at *
      generalize ps[j].v = x2 at *
      generalize ps[j].n = x3 at *
      generalize ps[j].ps.length = l1 at *
      generalize P j = q1 at *
      generalize C j = c1 at *
      generalize hln : ps.length = ln at *
      cases q
      all_goals
        first
          | (have HI2 := Lib.hid (HS1.out rfl); clear HS1 HS2)
          | (obtain rfl := HS2.out rfl; clear HS1 HS2)
        go_wp2_with fail
        go_region_held3 (fun w' => w'.cell? ⟨W.heap.size, 0, none⟩ = some (.int .i64 2) ∧ w'.cell? ⟨W.heap.size, 1, none⟩ = some (.int .i64 v) ∧ w'.cell? ⟨W.heap.size, 2, none⟩ = some (.int .i64 n) ∧ w'.cell? ⟨W.heap.size, 3, none⟩ = some (.slice (some ⟨b, off, none⟩) ln cap) ∧ w'.cell? ⟨W.heap.size + 1, 0, none⟩ = some (.int .i64 x.d) ∧ w'.cell? ⟨W.heap.size + 1, 1, none⟩ = some (.int .i64 x.f) ∧ w'.cell? ⟨W.heap.size + 1, 2, none⟩ = some (.int .i64 x.s) ∧ w'.cell? ⟨b, off + j * 4, none⟩ = some (.int .i64 x1) ∧ w'.cell? ⟨b, off + j * 4 + 1, none⟩ = some (.int .i64 x2) ∧ w'.cell? ⟨b, off + j * 4 + 2, none⟩ = some (.int .i64 x3) ∧ w'.cell? ⟨b, off + j * 4 + 3, none⟩ = some (.slice q1 l1 c1) ∧ Hid (Below wr.heap.size wr w'))
          (first
            | with_reducible exact HX2.out _ (Below.refl _ _).drew
            | with_reducible exact HX2.out _ (Below.refl _ _)
            | with_reducible exact HX2.out _ hb1.out
            | assumption | go_keep)
          ((go_at_call 55; with_reducible refine (HV.out _ (held11 (W := wr) (by assumption))).mono ?_; rintro e w' ⟨rfl, hb1⟩))
        all_goals
          go_wp2_with fail
          first
            | (go_ret; exact ⟨rfl, HA.out.trans ((HB.out.trans (hb1.out.mono HB.out.size)).mono HA.out.size)⟩)
            | (go_roundw
               case rel => exact ⟨j + 1, by omega, by go_num, HI2, Lib.hid (HB.out.trans (hb1.out.mono HB.out.size))⟩
               case measure => simp [intOf]; omega)
    · have hji : ¬ (j : Int) < (ps.length : Int) := by omega
      have hT : T = true := by
        have := HI.out
        rw [List.drop_of_length_le (by omega), rHoldA] at this
        exact this.symm
      subst hT
      clear HX HE HK HI
      go_wp2_with fail
      go_ret
      exact ⟨rfl, HA.out.trans (HB.out.mono HA.out.size)⟩

set_option maxHeartbeats 8000000 in
set_option maxRecDepth 100000 in
theorem rhold_3 (v n : Int) (ps : List Cd) (p : Option Addr) (b off cap : Nat) (P : Nat → Option Addr) (C : Nat → Nat) (hl : ps.length ≤ 3000000000000) (hlc : ps.length ≤ cap) (_ : cap ≤ 9223372036854775807) (hp : ps ≠ [] → p = some ⟨b, off, none⟩) (x : En) (W : World)
    (hcell : ∀ w', Below W.heap.size W w' → ∀ j (h : j < ps.length), w'.cell? ⟨b, off + j * 4, none⟩ = some (.int .i64 ps[j].k) ∧ w'.cell? ⟨b, off + j * 4 + 1, none⟩ = some (.int .i64 ps[j].v) ∧ w'.cell? ⟨b, off + j * 4 + 2, none⟩ = some (.int .i64 ps[j].n) ∧ w'.cell? ⟨b, off + j * 4 + 3, none⟩ = some (.slice (P j) ps[j].ps.length (C j)))
    (hcall : ∀ w', Below W.heap.size W w' → ∀ j (h : j < ps.length), Calls Tryz.prog 55 #[cV ps[j] (P j) (C j), envV x] w' fun e w2 => e = .returned (.bool (rHold x ps[j])) ∧ Below w'.heap.size w' w2) :
    Calls Tryz.prog 55 #[.agg #[.int .i64 3, .int .i64 v, .int .i64 n, .slice p ps.length cap], envV x] W fun e w' => e = .returned (.bool (rHoldO x ps)) ∧ Below W.heap.size W w' := by
  have hA := (Below.refl W.heap.size W).alloc (Nat.le_refl _) (.cells #[.int .i64 3, .int .i64 v, .int .i64 n, .slice p ps.length cap] 40)
  have hA2 := hA.alloc hA.size (.cells #[.int .i64 x.d, .int .i64 x.f, .int .i64 x.s] 42)
  have HA := Lib.hid hA2
  have HB0 := Lib.hid (Below.refl ((W.alloc (.cells #[.int .i64 3, .int .i64 v, .int .i64 n, .slice p ps.length cap] 40)).alloc (.cells #[.int .i64 x.d, .int .i64 x.f, .int .i64 x.s] 42)).heap.size ((W.alloc (.cells #[.int .i64 3, .int .i64 v, .int .i64 n, .slice p ps.length cap] 40)).alloc (.cells #[.int .i64 x.d, .int .i64 x.f, .int .i64 x.s] 42)))
  have HX : Hid (∀ w', Below ((W.alloc (.cells #[.int .i64 3, .int .i64 v, .int .i64 n, .slice p ps.length cap] 40)).alloc (.cells #[.int .i64 x.d, .int .i64 x.f, .int .i64 x.s] 42)).heap.size ((W.alloc (.cells #[.int .i64 3, .int .i64 v, .int .i64 n, .slice p ps.length cap] 40)).alloc (.cells #[.int .i64 x.d, .int .i64 x.f, .int .i64 x.s] 42)) w' → w'.cell? ⟨W.heap.size, 0, none⟩ = some (.int .i64 3) ∧ w'.cell? ⟨W.heap.size, 1, none⟩ = some (.int .i64 v) ∧ w'.cell? ⟨W.heap.size, 2, none⟩ = some (.int .i64 n) ∧ w'.cell? ⟨W.heap.size, 3, none⟩ = some (.slice p ps.length cap) ∧ w'.cell? ⟨W.heap.size + 1, 0, none⟩ = some (.int .i64 x.d) ∧ w'.cell? ⟨W.heap.size + 1, 1, none⟩ = some (.int .i64 x.f) ∧ w'.cell? ⟨W.heap.size + 1, 2, none⟩ = some (.int .i64 x.s)) := Lib.hid fun w' hb =>
    ⟨keepc hb (by simp [go_sem]), keepc hb (by simp [go_sem]), keepc hb (by simp [go_sem]), keepc hb (by simp [go_sem]), keepc hb (by simp [go_sem]), keepc hb (by simp [go_sem]), keepc hb (by simp [go_sem])⟩
  have HE : Hid (∀ w', Below W.heap.size W w' → ∀ j (h : j < ps.length), p = some ⟨b, off, none⟩ ∧ w'.cell? ⟨b, off + j * 4, none⟩ = some (.int .i64 ps[j].k) ∧ w'.cell? ⟨b, off + j * 4 + 1, none⟩ = some (.int .i64 ps[j].v) ∧ w'.cell? ⟨b, off + j * 4 + 2, none⟩ = some (.int .i64 ps[j].n) ∧ w'.cell? ⟨b, off + j * 4 + 3, none⟩ = some (.slice (P j) ps[j].ps.length (C j))) := Lib.hid fun w' hb j h => ⟨hp (by rintro rfl; simp at h), hcell w' hb j h⟩
  have HK := Lib.hid hcall
  obtain ⟨T, hT⟩ : ∃ T, rHoldO x ps = T := ⟨_, rfl⟩
  rw [hT]
  have H0 : Hid (rHoldO x (ps.drop 0) = T) := Lib.hid (by rw [List.drop_zero]; exact hT)
  clear hA hA2 hcell hcall hp hT
  unfold envV at *
  go_enter Tryz.func55, Tryz.ntmps55
  go_wp2_with fail
  generalize ((W.alloc (.cells #[.int .i64 3, .int .i64 v, .int .i64 n, .slice p ps.length cap] 40)).alloc (.cells #[.int .i64 x.d, .int .i64 x.f, .int .i64 x.s] 42)) = W2 at *
  go_loopw [5] (fun i wr => ∃ j : Nat, j ≤ ps.length ∧ i = .int .i64 j ∧ Hid (rHoldO x (ps.drop j) = T) ∧ Hid (Below W2.heap.size W2 wr)) (fun i _ => ps.length - (intOf i).toNat)
  case atStart => exact ⟨0, Nat.zero_le _, rfl, H0, HB0⟩
  case round =>
    obtain ⟨j, hj, rfl, HI, HB⟩ := hrel
    clear H0 HB0
    obtain ⟨y0, y1, y2, y3, y4, y5, y6⟩ := HX.out wr HB.out
    by_cases hlt : j < ps.length
    · have hji : (j : Int) < (ps.length : Int) := by omega
      have hW := HA.out.trans (HB.out.mono HA.out.size)
      obtain ⟨rfl, y7, y8, y9, y10⟩ := HE.out wr hW j hlt
      have HX2 : Hid (∀ w', Below wr.heap.size wr w' → w'.cell? ⟨W.heap.size, 0, none⟩ = some (.int .i64 3) ∧ w'.cell? ⟨W.heap.size, 1, none⟩ = some (.int .i64 v) ∧ w'.cell? ⟨W.heap.size, 2, none⟩ = some (.int .i64 n) ∧ w'.cell? ⟨W.heap.size, 3, none⟩ = some (.slice (some ⟨b, off, none⟩) ps.length cap) ∧ w'.cell? ⟨W.heap.size + 1, 0, none⟩ = some (.int .i64 x.d) ∧ w'.cell? ⟨W.heap.size + 1, 1, none⟩ = some (.int .i64 x.f) ∧ w'.cell? ⟨W.heap.size + 1, 2, none⟩ = some (.int .i64 x.s) ∧ w'.cell? ⟨b, off + j * 4, none⟩ = some (.int .i64 ps[j].k) ∧ w'.cell? ⟨b, off + j * 4 + 1, none⟩ = some (.int .i64 ps[j].v) ∧ w'.cell? ⟨b, off + j * 4 + 2, none⟩ = some (.int .i64 ps[j].n) ∧ w'.cell? ⟨b, off + j * 4 + 3, none⟩ = some (.slice (P j) ps[j].ps.length (C j)) ∧ Hid (Below wr.heap.size wr w')) := Lib.hid fun w' hb => by
        obtain ⟨z0, z1, z2, z3, z4, z5, z6⟩ := HX.out w' (HB.out.trans (hb.mono HB.out.size))
        obtain ⟨-, z7, z8, z9, z10⟩ := HE.out w' (hW.trans (hb.mono hW.size)) j hlt
        exact ⟨z0, z1, z2, z3, z4, z5, z6, z7, z8, z9, z10, Lib.hid hb⟩
      have HV : Hid (∀ w1 : World, Below wr.heap.size wr w1 → Calls Tryz.prog 55 #[.agg #[.int .i64 ps[j].k, .int .i64 ps[j].v, .int .i64 ps[j].n, .slice (P j) ps[j].ps.length (C j)], .agg #[.int .i64 x.d, .int .i64 x.f, .int .i64 x.s]] w1 fun e w' => e = .returned (.bool (rHold x ps[j])) ∧ Hid (Below wr.heap.size wr w')) := Lib.hid fun w1 hb => by
        have := HK.out w1 (hW.trans (hb.mono hW.size)) j hlt
        exact this.mono fun e w' hr => ⟨hr.1, Lib.hid (hb.trans (hr.2.mono hb.size))⟩
      have HS1 : Hid (rHold x ps[j] = false → rHoldO x (ps.drop (j + 1)) = T) := Lib.hid fun h => by
        have := HI.out
        rw [(List.getElem_cons_drop hlt).symm, rHoldO, h, Bool.false_or] at this
        exact this
      have HS2 : Hid (rHold x ps[j] = true → T = true) := Lib.hid fun h => by
        have := HI.out
        rw [(List.getElem_cons_drop hlt).symm, rHoldO, h, Bool.true_or] at this
        exact this.symm
      clear HX HE HK HI hW
      generalize rHold x ps[j] = q at *
      generalize ps[j].k = x1 at *
      generalize ps[j].v = x2 at *
      generalize ps[j].n = x3 at *
      generalize ps[j].ps.length = l1 at *
      generalize P j = q1 at *
      generalize C j = c1 at *
      generalize hln : ps.length = ln at *
      cases q
      all_goals
        first
          | (have HI2 := Lib.hid (HS1.out rfl); clear HS1 HS2)
          | (obtain rfl := HS2.out rfl; clear HS1 HS2)
        go_wp2_with fail
        go_region_held3 (fun w' => w'.cell? ⟨W.heap.size, 0, none⟩ = some (.int .i64 3) ∧ w'.cell? ⟨W.heap.size, 1, none⟩ = some (.int .i64 v) ∧ w'.cell? ⟨W.heap.size, 2, none⟩ = some (.int .i64 n) ∧ w'.cell? ⟨W.heap.size, 3, none⟩ = some (.slice (some ⟨b, off, none⟩) ln cap) ∧ w'.cell? ⟨W.heap.size + 1, 0, none⟩ = some (.int .i64 x.d) ∧ w'.cell? ⟨W.heap.size + 1, 1, none⟩ = some (.int .i64 x.f) ∧ w'.cell? ⟨W.heap.size + 1, 2, none⟩ = some (.int .i64 x.s) ∧ w'.cell? ⟨b, off + j * 4, none⟩ = some (.int .i64 x1) ∧ w'.cell? ⟨b, off + j * 4 + 1, none⟩ = some (.int .i64 x2) ∧ w'.cell? ⟨b, off + j * 4 + 2, none⟩ = some (.int .i64 x3) ∧ w'.cell? ⟨b, off + j * 4 + 3, none⟩ = some (.slice q1 l1 c1) ∧ Hid (Below wr.heap.size wr w'))
          (first
            | with_reducible exact HX2.out _ (Below.refl _ _).drew
            | with_reducible exact HX2.out _ (Below.refl _ _)
            | with_reducible exact HX2.out _ hb1.out
            | assumption | go_keep)
          ((go_at_call 55; with_reducible refine (HV.out _ (held11 (W := wr) (by assumption))).mono ?_; rintro e w' ⟨rfl, hb1⟩))
        all_goals
          go_wp2_with fail
          first
            | (go_ret; exact ⟨rfl, HA.out.trans ((HB.out.trans (hb1.out.mono HB.out.size)).mono HA.out.size)⟩)
            | (go_roundw
               case rel => exact ⟨j + 1, by omega, by go_num, HI2, Lib.hid (HB.out.trans (hb1.out.mono HB.out.size))⟩
               case measure => simp [intOf]; omega)
    · have hji : ¬ (j : Int) < (ps.length : Int) := by omega
      have hT : T = false := by
        have := HI.out
        rw [List.drop_of_length_le (by omega), rHoldO] at this
        exact this.symm
      subst hT
      clear HX HE HK HI
      go_wp2_with fail
      go_ret
      exact ⟨rfl, HA.out.trans (HB.out.mono HA.out.size)⟩
end Go.Proofs.YtabdgnigmlpeaaaGreatDoor
/- The specification: holds and Holds. -/
namespace Go.Proofs.YtabdgnigmlpeaaaGreatDoor
open Go.RowKit

theorem rHoldA_one (x : En) : ∀ (l : List Cd) (_ : l.length = 1) (h0 : 0 < l.length), rHoldA x l = rHold x l[0]
  | [c], _, _ => by simp [rHoldA]
theorem rholds_any (x : En) {w0 : World} {Q : Nat → Prop} {c : Cd} {p : Option Addr} {cap : Nat} (h : CdIn w0 Q c p cap) : okC c = true → ∀ (W : World), Below w0.heap.size w0 W →
    Calls Tryz.prog 55 #[cV c p cap, envV x] W fun e w' => e = .returned (.bool (rHold x c)) ∧ Below W.heap.size W w' := by
  induction h with
  | mk k v n ps p cap b off P C hl hc hc2 hp hb hcell hsub ih =>
    intro hok W hW
    rw [okC] at hok
    have hcell' : ∀ w', Below W.heap.size W w' → ∀ j (h : j < ps.length), w'.cell? ⟨b, off + j * 4, none⟩ = some (.int .i64 ps[j].k) ∧ w'.cell? ⟨b, off + j * 4 + 1, none⟩ = some (.int .i64 ps[j].v) ∧ w'.cell? ⟨b, off + j * 4 + 2, none⟩ = some (.int .i64 ps[j].n) ∧ w'.cell? ⟨b, off + j * 4 + 3, none⟩ = some (.slice (P j) ps[j].ps.length (C j)) := fun w' hb' j hj => by
      have hbb := hW.trans (hb'.mono hW.size)
      obtain ⟨a0, a1, a2, a3⟩ := hcell j hj
      exact ⟨keepc hbb a0, keepc hbb a1, keepc hbb a2, keepc hbb a3⟩
    have hcall' : okCs ps = true → ∀ w', Below W.heap.size W w' → ∀ j (h : j < ps.length), Calls Tryz.prog 55 #[cV ps[j] (P j) (C j), envV x] w' fun e w2 => e = .returned (.bool (rHold x ps[j])) ∧ Below w'.heap.size w' w2 := fun ho w' hb' j hj =>
      ih j hj (by rw [okCs_eq] at ho; exact List.all_eq_true.1 ho _ (List.getElem_mem hj)) w' (hW.trans (hb'.mono hW.size))
    have hpp : ps ≠ [] → p = some ⟨b, off, none⟩ := fun h => (hb h).1
    show Calls Tryz.prog 55 #[.agg #[.int .i64 k, .int .i64 v, .int .i64 n, .slice p ps.length cap], envV x] W _
    rw [rHold]
    by_cases h1 : k = 1
    · subst h1
      rw [if_pos rfl] at hok
      rw [if_pos rfl]
      simp only [Bool.and_eq_true, decide_eq_true_eq] at hok
      exact rhold_1 v n p ps.length cap hok.1 x W
    rw [if_neg h1] at hok
    rw [if_neg h1]
    by_cases h23 : k = 2 ∨ k = 3
    · rw [if_pos h23] at hok
      simp only [Bool.and_eq_true, decide_eq_true_eq] at hok
      have hc' := hcall' hok.2.2
      rcases h23 with rfl | rfl
      · rw [if_neg (by decide), if_pos rfl]
        exact rhold_2 v n ps p b off cap P C hl hc hc2 hpp x W hcell' hc'
      · rw [if_neg (by decide), if_neg (by decide)]
        exact rhold_3 v n ps p b off cap P C hl hc hc2 hpp x W hcell' hc'
    · rw [if_neg h23] at hok
      by_cases h4 : k = 4
      · subst h4
        rw [if_pos rfl] at hok
        rw [if_pos rfl]
        simp only [Bool.and_eq_true, decide_eq_true_eq] at hok
        have hc' := hcall' hok.2.2
        have h0 : 0 < ps.length := by omega
        have hpe := hpp (List.length_pos_iff.1 h0)
        subst hpe
        rw [rHoldA_one x ps hok.1 h0]
        exact rhold_4 v n b off ps.length cap h0 hc hc2 ps[0].k ps[0].v ps[0].n (P 0) ps[0].ps.length (C 0) (rHold x ps[0]) x W (fun w' hb' => by have h5 := hcell' w' hb' 0 h0; rw [Nat.zero_mul, Nat.add_zero] at h5; exact h5) (fun w' hb' => hc' w' hb' 0 h0)
      · rw [if_neg h4] at hok; cases hok

def rHoldsR (c : Cd) (x : En) : Bool × Int := if rCond c ≠ 0 then (false, rCond c) else if envE x ≠ 0 then (false, envE x) else (rHold x c, 0)
theorem okC_of (c : Cd) (h : rCond c = 0) : okC c = true := by
  unfold rCond at h
  by_cases h1 : okC c = true
  · exact h1
  · rw [if_neg h1] at h; split at h <;> omega
set_option maxHeartbeats 4000000 in
set_option maxRecDepth 100000 in
theorem rHolds_any (x : En) {w : World} {Q : Nat → Prop} {c : Cd} {p : Option Addr} {cap : Nat} (h : CdIn w Q c p cap) :
    Calls Tryz.prog 25 #[cV c p cap, envV x] w fun e w' => e = .returned (.tuple #[.bool (rHoldsR c x).1, .int .i64 (rHoldsR c x).2]) ∧ Below w.heap.size w w' := by
  have hA := (Below.refl w.heap.size w).alloc (Nat.le_refl _) (.cells #[.int .i64 c.k, .int .i64 c.v, .int .i64 c.n, .slice p c.ps.length cap] 40)
  have hA2 := hA.alloc hA.size (.cells #[.int .i64 x.d, .int .i64 x.f, .int .i64 x.s] 42)
  have HA := Lib.hid hA2
  have HX : Hid (∀ w', Below ((w.alloc (.cells #[.int .i64 c.k, .int .i64 c.v, .int .i64 c.n, .slice p c.ps.length cap] 40)).alloc (.cells #[.int .i64 x.d, .int .i64 x.f, .int .i64 x.s] 42)).heap.size ((w.alloc (.cells #[.int .i64 c.k, .int .i64 c.v, .int .i64 c.n, .slice p c.ps.length cap] 40)).alloc (.cells #[.int .i64 x.d, .int .i64 x.f, .int .i64 x.s] 42)) w' →
      w'.cell? ⟨w.heap.size, 0, none⟩ = some (.int .i64 c.k) ∧ w'.cell? ⟨w.heap.size, 1, none⟩ = some (.int .i64 c.v) ∧ w'.cell? ⟨w.heap.size, 2, none⟩ = some (.int .i64 c.n) ∧ w'.cell? ⟨w.heap.size, 3, none⟩ = some (.slice p c.ps.length cap) ∧ w'.cell? ⟨w.heap.size + 1, 0, none⟩ = some (.int .i64 x.d) ∧ w'.cell? ⟨w.heap.size + 1, 1, none⟩ = some (.int .i64 x.f) ∧ w'.cell? ⟨w.heap.size + 1, 2, none⟩ = some (.int .i64 x.s)) := Lib.hid fun w' hb =>
    ⟨keepc hb (by simp [go_sem]), keepc hb (by simp [go_sem]), keepc hb (by simp [go_sem]), keepc hb (by simp [go_sem]), keepc hb (by simp [go_sem]), keepc hb (by simp [go_sem]), keepc hb (by simp [go_sem])⟩
  have HC : Hid (∀ W, Below w.heap.size w W → Calls Tryz.prog 17 #[cV c p cap] W fun e w' => e = .returned (.int .i64 (rCond c)) ∧ Below W.heap.size W w') := Lib.hid fun W hb => rcond_any (h.bel hb)
  have HN : Hid (∀ W, Calls Tryz.prog 21 #[envV x] W fun e w' => e = .returned (.int .i64 (envE x)) ∧ Below W.heap.size W w') := Lib.hid fun W => renv_any x W
  have HH : Hid (rCond c = 0 → ∀ W, Below w.heap.size w W → Calls Tryz.prog 55 #[cV c p cap, envV x] W fun e w' => e = .returned (.bool (rHold x c)) ∧ Below W.heap.size W w') := Lib.hid fun h0 W hb => rholds_any x h (okC_of c h0) W hb
  unfold rHoldsR
  clear h hA hA2
  unfold cV at *
  unfold envV at *
  generalize rCond c = rc at *
  generalize envE x = re at *
  generalize rHold x c = q at *
  generalize c.k = x1 at *
  generalize c.v = x2 at *
  generalize c.n = x3 at *
  generalize c.ps.length = x4 at *
  by_cases h0 : rc = 0
  · subst h0
    rw [if_neg (fun h => h rfl)]
    by_cases h1 : re = 0
    · subst h1
      rw [if_neg (fun h => h rfl)]
      have HH2 := Lib.hid (HH.out rfl)
      clear HH
      go_enter Tryz.func25, Tryz.ntmps25
      go_wp2_with (first
        | (go_at_call 17; (with_reducible refine (HC.out _ HA.out).mono ?_); rintro e w1 ⟨rfl, hb⟩; obtain ⟨y0, y1, y2, y3, y4, y5, y6⟩ := HX.out _ hb; have HB1 := Lib.hid hb; clear hb)
        | (go_at_call 21; (with_reducible refine (HN.out _).mono ?_); rintro e w2 ⟨rfl, hb⟩; clear y0 y1 y2 y3 y4 y5 y6; obtain ⟨y0, y1, y2, y3, y4, y5, y6⟩ := HX.out _ (HB1.out.trans (hb.mono HB1.out.size)); have HB2 := Lib.hid (HB1.out.trans (hb.mono HB1.out.size)); clear hb)
        | (go_at_call 55; (with_reducible refine (HH2.out _ (HA.out.trans (HB2.out.mono HA.out.size))).mono ?_); rintro e w3 ⟨rfl, hb⟩; have HB3 := Lib.hid (HB2.out.trans (hb.mono HB2.out.size)); clear hb))
      go_ret2
      exact ⟨rfl, HA.out.trans (HB3.out.mono HA.out.size)⟩
    · rw [if_pos h1]
      have hne : (re != 0) = true := by simpa using h1
      clear HH h1
      go_enter Tryz.func25, Tryz.ntmps25
      go_wp2_with (first
        | (go_at_call 17; (with_reducible refine (HC.out _ HA.out).mono ?_); rintro e w1 ⟨rfl, hb⟩; obtain ⟨y0, y1, y2, y3, y4, y5, y6⟩ := HX.out _ hb; have HB1 := Lib.hid hb; clear hb)
        | (go_at_call 21; (with_reducible refine (HN.out _).mono ?_); rintro e w2 ⟨rfl, hb⟩; have HB2 := Lib.hid (HB1.out.trans (hb.mono HB1.out.size)); clear hb))
      go_ret2
      exact ⟨rfl, HA.out.trans (HB2.out.mono HA.out.size)⟩
  · rw [if_pos h0]
    have hne : (rc != 0) = true := by simpa using h0
    clear HH h0
    go_enter Tryz.func25, Tryz.ntmps25
    go_wp2_with (go_at_call 17; (with_reducible refine (HC.out _ HA.out).mono ?_); rintro e w1 ⟨rfl, hb⟩; have HB1 := Lib.hid hb; clear hb)
    go_ret2
    exact ⟨rfl, HA.out.trans (HB1.out.mono HA.out.size)⟩
end Go.Proofs.YtabdgnigmlpeaaaGreatDoor
