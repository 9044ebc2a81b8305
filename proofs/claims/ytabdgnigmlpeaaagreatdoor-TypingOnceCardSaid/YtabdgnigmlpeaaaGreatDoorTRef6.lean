/- The specification: a condition holds. -/
import Derived.Test.YtabdgnigmlpeaaaGreatDoorTRef5
import Derived.Deep.RegionHeld3
namespace Go.Proofs.YtabdgnigmlpeaaaGreatDoor
open Go.RowKit

set_option maxHeartbeats 2000000 in
theorem rvalue_any (v : Int) (hv : 1 ≤ v ∧ v ≤ 3) (x : En) (w : World) :
    Calls Tryz.prog 122 #[.int .i64 v, envV x] w fun e w' => e = .returned (.int .i64 (valE v x)) ∧ Below w.heap.size w w' := by
  have HA := Lib.hid ((Below.refl w.heap.size w).alloc (Nat.le_refl _) (.cells #[.int .i64 x.d, .int .i64 x.f, .int .i64 x.s] 42))
  obtain ⟨d, f, s⟩ := x
  unfold envV
  simp only at *
  have h3 : v = 1 ∨ v = 2 ∨ v = 3 := by omega
  rcases h3 with rfl | rfl | rfl
  all_goals
    go_enter Tryz.func122, Tryz.ntmps122
    go_wp2_with fail
    go_ret
    exact ⟨rfl, HA.out⟩

theorem held7 {W w' : World} {A B C D E F G : Prop} (h : A ∧ B ∧ C ∧ D ∧ E ∧ F ∧ G ∧ Hid (Below W.heap.size W w')) : Below W.heap.size W w' := h.2.2.2.2.2.2.2.out
set_option maxHeartbeats 8000000 in
set_option maxRecDepth 100000 in
theorem rhold_1 (v n : Int) (p : Option Addr) (len cap : Nat) (hv : 1 ≤ v ∧ v ≤ 3) (x : En) (W : World) :
    Calls Tryz.prog 55 #[.agg #[.int .i64 1, .int .i64 v, .int .i64 n, .slice p len cap], envV x] W fun e w' => e = .returned (.bool (decide (n ≤ valE v x))) ∧ Below W.heap.size W w' := by
  have hA := (Below.refl W.heap.size W).alloc (Nat.le_refl _) (.cells #[.int .i64 1, .int .i64 v, .int .i64 n, .slice p len cap] 40)
  have HA := Lib.hid (hA.alloc hA.size (.cells #[.int .i64 x.d, .int .i64 x.f, .int .i64 x.s] 42))
  have HX : Hid (∀ w', Below ((W.alloc (.cells #[.int .i64 1, .int .i64 v, .int .i64 n, .slice p len cap] 40)).alloc (.cells #[.int .i64 x.d, .int .i64 x.f, .int .i64 x.s] 42)).heap.size ((W.alloc (.cells #[.int .i64 1, .int .i64 v, .int .i64 n, .slice p len cap] 40)).alloc (.cells #[.int .i64 x.d, .int .i64 x.f, .int .i64 x.s] 42)) w' →
      w'.cell? ⟨W.heap.size, 0, none⟩ = some (.int .i64 1) ∧ w'.cell? ⟨W.heap.size, 1, none⟩ = some (.int .i64 v) ∧ w'.cell? ⟨W.heap.size, 2, none⟩ = some (.int .i64 n) ∧ w'.cell? ⟨W.heap.size, 3, none⟩ = some (.slice p len cap) ∧ w'.cell? ⟨W.heap.size + 1, 0, none⟩ = some (.int .i64 x.d) ∧ w'.cell? ⟨W.heap.size + 1, 1, none⟩ = some (.int .i64 x.f) ∧ w'.cell? ⟨W.heap.size + 1, 2, none⟩ = some (.int .i64 x.s) ∧ Hid (Below ((W.alloc (.cells #[.int .i64 1, .int .i64 v, .int .i64 n, .slice p len cap] 40)).alloc (.cells #[.int .i64 x.d, .int .i64 x.f, .int .i64 x.s] 42)).heap.size ((W.alloc (.cells #[.int .i64 1, .int .i64 v, .int .i64 n, .slice p len cap] 40)).alloc (.cells #[.int .i64 x.d, .int .i64 x.f, .int .i64 x.s] 42)) w')) := Lib.hid fun w' hb =>
    ⟨keepc hb (by simp [go_sem]), keepc hb (by simp [go_sem]), keepc hb (by simp [go_sem]), keepc hb (by simp [go_sem]), keepc hb (by simp [go_sem]), keepc hb (by simp [go_sem]), keepc hb (by simp [go_sem]), Lib.hid hb⟩
  have HV : Hid (∀ W2 w1 : World, Below W2.heap.size W2 w1 → Calls Tryz.prog 122 #[.int .i64 v, envV x] w1 fun e w' => e = .returned (.int .i64 (valE v x)) ∧ Hid (Below W2.heap.size W2 w')) := Lib.hid fun W2 w1 hb => (rvalue_any v hv x w1).mono fun e w' hr => ⟨hr.1, Lib.hid (hb.trans (hr.2.mono hb.size))⟩
  clear hv hA
  unfold envV at *
  generalize valE v x = q at *
  obtain ⟨d, f, s⟩ := x
  simp only at *
  go_enter Tryz.func55, Tryz.ntmps55
  go_wp2_with fail
  generalize (W.alloc (.cells #[.int .i64 1, .int .i64 v, .int .i64 n, .slice p len cap] 40)).alloc (.cells #[.int .i64 d, .int .i64 f, .int .i64 s] 42) = W2 at *
  obtain ⟨y0, y1, y2, y3, y4, y5, y6, -⟩ := HX.out W2 (Below.refl _ _)
  go_region_held3 (fun w' => w'.cell? ⟨W.heap.size, 0, none⟩ = some (.int .i64 1) ∧ w'.cell? ⟨W.heap.size, 1, none⟩ = some (.int .i64 v) ∧ w'.cell? ⟨W.heap.size, 2, none⟩ = some (.int .i64 n) ∧ w'.cell? ⟨W.heap.size, 3, none⟩ = some (.slice p len cap) ∧ w'.cell? ⟨W.heap.size + 1, 0, none⟩ = some (.int .i64 d) ∧ w'.cell? ⟨W.heap.size + 1, 1, none⟩ = some (.int .i64 f) ∧ w'.cell? ⟨W.heap.size + 1, 2, none⟩ = some (.int .i64 s) ∧ Hid (Below W2.heap.size W2 w'))
    (first
      | with_reducible exact HX.out _ (Below.refl _ _).drew
      | with_reducible exact HX.out _ (Below.refl _ _)
      | with_reducible exact HX.out _ hb1.out
      | assumption | go_keep)
    ((go_at_call 122; with_reducible refine (HV.out W2 _ (held7 (W := W2) (by assumption))).mono ?_; rintro e w' ⟨rfl, hb1⟩))
  all_goals
    go_wp2_with fail
    go_ret
    exact ⟨rfl, HA.out.trans (hb1.out.mono HA.out.size)⟩

theorem held11 {W w' : World} {A B C D E F G H I J K : Prop} (h : A ∧ B ∧ C ∧ D ∧ E ∧ F ∧ G ∧ H ∧ I ∧ J ∧ K ∧ Hid (Below W.heap.size W w')) : Below W.heap.size W w' := h.2.2.2.2.2.2.2.2.2.2.2.out
set_option maxHeartbeats 8000000 in
set_option maxRecDepth 100000 in
theorem rhold_4 (v n : Int) (b off len cap : Nat) (hlen : 0 < len) (_ : len ≤ cap) (_ : cap ≤ 9223372036854775807) (x1 x2 x3 : Int) (q1 : Option Addr) (l1 c1 : Nat) (q : Bool) (x : En) (W : World)
    (hcell : ∀ w', Below W.heap.size W w' → w'.cell? ⟨b, off, none⟩ = some (.int .i64 x1) ∧ w'.cell? ⟨b, off + 1, none⟩ = some (.int .i64 x2) ∧ w'.cell? ⟨b, off + 2, none⟩ = some (.int .i64 x3) ∧ w'.cell? ⟨b, off + 3, none⟩ = some (.slice q1 l1 c1))
    (hcall : ∀ w', Below W.heap.size W w' → Calls Tryz.prog 55 #[.agg #[.int .i64 x1, .int .i64 x2, .int .i64 x3, .slice q1 l1 c1], envV x] w' fun e w2 => e = .returned (.bool q) ∧ Below w'.heap.size w' w2) :
    Calls Tryz.prog 55 #[.agg #[.int .i64 4, .int .i64 v, .int .i64 n, .slice (some ⟨b, off, none⟩) len cap], envV x] W fun e w' => e = .returned (.bool (!q)) ∧ Below W.heap.size W w' := by
  have hA := (Below.refl W.heap.size W).alloc (Nat.le_refl _) (.cells #[.int .i64 4, .int .i64 v, .int .i64 n, .slice (some ⟨b, off, none⟩) len cap] 40)
  have hA2 := hA.alloc hA.size (.cells #[.int .i64 x.d, .int .i64 x.f, .int .i64 x.s] 42)
  have HA := Lib.hid hA2
  have HX : Hid (∀ w', Below ((W.alloc (.cells #[.int .i64 4, .int .i64 v, .int .i64 n, .slice (some ⟨b, off, none⟩) len cap] 40)).alloc (.cells #[.int .i64 x.d, .int .i64 x.f, .int .i64 x.s] 42)).heap.size ((W.alloc (.cells #[.int .i64 4, .int .i64 v, .int .i64 n, .slice (some ⟨b, off, none⟩) len cap] 40)).alloc (.cells #[.int .i64 x.d, .int .i64 x.f, .int .i64 x.s] 42)) w' →
      w'.cell? ⟨W.heap.size, 0, none⟩ = some (.int .i64 4) ∧ w'.cell? ⟨W.heap.size, 1, none⟩ = some (.int .i64 v) ∧ w'.cell? ⟨W.heap.size, 2, none⟩ = some (.int .i64 n) ∧ w'.cell? ⟨W.heap.size, 3, none⟩ = some (.slice (some ⟨b, off, none⟩) len cap) ∧ w'.cell? ⟨W.heap.size + 1, 0, none⟩ = some (.int .i64 x.d) ∧ w'.cell? ⟨W.heap.size + 1, 1, none⟩ = some (.int .i64 x.f) ∧ w'.cell? ⟨W.heap.size + 1, 2, none⟩ = some (.int .i64 x.s) ∧ w'.cell? ⟨b, off, none⟩ = some (.int .i64 x1) ∧ w'.cell? ⟨b, off + 1, none⟩ = some (.int .i64 x2) ∧ w'.cell? ⟨b, off + 2, none⟩ = some (.int .i64 x3) ∧ w'.cell? ⟨b, off + 3, none⟩ = some (.slice q1 l1 c1) ∧ Hid (Below ((W.alloc (.cells #[.int .i64 4, .int .i64 v, .int .i64 n, .slice (some ⟨b, off, none⟩) len cap] 40)).alloc (.cells #[.int .i64 x.d, .int .i64 x.f, .int .i64 x.s] 42)).heap.size ((W.alloc (.cells #[.int .i64 4, .int .i64 v, .int .i64 n, .slice (some ⟨b, off, none⟩) len cap] 40)).alloc (.cells #[.int .i64 x.d, .int .i64 x.f, .int .i64 x.s] 42)) w')) := Lib.hid fun w' hb =>
    have h4 := hcell w' (hA2.trans (hb.mono hA2.size))
    ⟨keepc hb (by simp [go_sem]), keepc hb (by simp [go_sem]), keepc hb (by simp [go_sem]), keepc hb (by simp [go_sem]), keepc hb (by simp [go_sem]), keepc hb (by simp [go_sem]), keepc hb (by simp [go_sem]), h4.1, h4.2.1, h4.2.2.1, h4.2.2.2, Lib.hid hb⟩
  have HV : Hid (∀ W2 w1 : World, Below W.heap.size W W2 → Below W2.heap.size W2 w1 → Calls Tryz.prog 55 #[.agg #[.int .i64 x1, .int .i64 x2, .int .i64 x3, .slice q1 l1 c1], envV x] w1 fun e w' => e = .returned (.bool q) ∧ Hid (Below W2.heap.size W2 w')) := Lib.hid fun W2 w1 h2 hb => (hcall w1 (h2.trans (hb.mono h2.size))).mono fun e w' hr => ⟨hr.1, Lib.hid (hb.trans (hr.2.mono hb.size))⟩
  have hli : (0 : Int) < (len : Int) := by omega
  clear hA hA2 hcell hcall
  unfold envV at *
  obtain ⟨d, f, s⟩ := x
  simp only at *
  go_enter Tryz.func55, Tryz.ntmps55
  go_wp2_with fail
  generalize (W.alloc (.cells #[.int .i64 4, .int .i64 v, .int .i64 n, .slice (some ⟨b, off, none⟩) len cap] 40)).alloc (.cells #[.int .i64 d, .int .i64 f, .int .i64 s] 42) = W2 at *
  obtain ⟨y0, y1, y2, y3, y4, y5, y6, y7, y8, y9, y10, -⟩ := HX.out W2 (Below.refl _ _)
  go_region_held3 (fun w' => w'.cell? ⟨W.heap.size, 0, none⟩ = some (.int .i64 4) ∧ w'.cell? ⟨W.heap.size, 1, none⟩ = some (.int .i64 v) ∧ w'.cell? ⟨W.heap.size, 2, none⟩ = some (.int .i64 n) ∧ w'.cell? ⟨W.heap.size, 3, none⟩ = some (.slice (some ⟨b, off, none⟩) len cap) ∧ w'.cell? ⟨W.heap.size + 1, 0, none⟩ = some (.int .i64 d) ∧ w'.cell? ⟨W.heap.size + 1, 1, none⟩ = some (.int .i64 f) ∧ w'.cell? ⟨W.heap.size + 1, 2, none⟩ = some (.int .i64 s) ∧ w'.cell? ⟨b, off, none⟩ = some (.int .i64 x1) ∧ w'.cell? ⟨b, off + 1, none⟩ = some (.int .i64 x2) ∧ w'.cell? ⟨b, off + 2, none⟩ = some (.int .i64 x3) ∧ w'.cell? ⟨b, off + 3, none⟩ = some (.slice q1 l1 c1) ∧ Hid (Below W2.heap.size W2 w'))
    (first
      | with_reducible exact HX.out _ (Below.refl _ _).drew
      | with_reducible exact HX.out _ (Below.refl _ _)
      | with_reducible exact HX.out _ hb1.out
      | assumption | go_keep)
    ((go_at_call 55; with_reducible refine (HV.out W2 _ HA.out (held11 (W := W2) (by assumption))).mono ?_; rintro e w' ⟨rfl, hb1⟩))
  all_goals
    go_wp2_with fail
    go_ret
    exact ⟨rfl, HA.out.trans (hb1.out.mono HA.out.size)⟩
end Go.Proofs.YtabdgnigmlpeaaaGreatDoor
