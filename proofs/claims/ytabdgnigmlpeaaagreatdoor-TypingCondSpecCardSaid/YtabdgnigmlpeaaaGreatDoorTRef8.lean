/- The specification: holds and Holds. -/
import Derived.Test.YtabdgnigmlpeaaaGreatDoorTRef7
namespace Go.Proofs.YtabdgnigmlpeaaaGreatDoor
open Go.RowKit

theorem rHoldA_one (x : En) : ∀ (l : List Cd) (_ : l.length = 1) (h0 : 0 < l.length), rHoldA x l = rHold x l[0]
  | [c], _, _ => by simp [rHoldA]
theorem rholds_any (x : En) {w0 : World} {Q : Nat → Prop} {c : Cd} {p : Option Addr} {cap : Nat} (h : CdIn w0 Q c p cap) : okC c = true → ∀ (W : World), Below w0.heap.size w0 W →
    Calls Tryz.prog 55 #[cV c p cap, envV x] W fun e w' => e = .returned (.bool (rHold x c)) ∧ Below W.heap.size W w' := by
  induction h with
  | mk k v n ps p cap b off P C hl hc hc2 hp hb hcell hsub ih =>
    intro hok W hW
    rw [okC] at hok
    have hcell' : ∀ w', Below W.heap.size W w' → ∀ j (h : j < ps.length), w'.cell? ⟨b, off + j * 4, none⟩ = some (.int .i64 ps[j].k) ∧ w'.cell? ⟨b, off + j * 4 + 1, none⟩ = some (.int .i64 ps[j].v) ∧ w'.cell? ⟨b, off + j * 4 + 2, none⟩ = some (.int .i64 ps[j].n) ∧ w'.cell? ⟨b, off + j * 4 + 3, none⟩ = some (.slice (P j) ps[j].ps.length (C j)) := fun w' hb' j hj => by
      have hbb := hW.trans (hb'.mono hW.size)
      obtain ⟨a0, a1, a2, a3⟩ := hcell j hj
      exact ⟨keepc hbb a0, keepc hbb a1, keepc hbb a2, keepc hbb a3⟩
    have hcall' : okCs ps = true → ∀ w', Below W.heap.size W w' → ∀ j (h : j < ps.length), Calls Tryz.prog 55 #[cV ps[j] (P j) (C j), envV x] w' fun e w2 => e = .returned (.bool (rHold x ps[j])) ∧ Below w'.heap.size w' w2 := fun ho w' hb' j hj =>
      ih j hj (by rw [okCs_eq] at ho; exact List.all_eq_true.1 ho _ (List.getElem_mem hj)) w' (hW.trans (hb'.mono hW.size))
    have hpp : ps ≠ [] → p = some ⟨b, off, none⟩ := fun h => (hb h).1
    show Calls Tryz.prog 55 #[.agg #[.int .i64 k, .int .i64 v, .int .i64 n, .slice p ps.length cap], envV x] W _
    rw [rHold]
    by_cases h1 : k = 1
    · subst h1
      rw [if_pos rfl] at hok
      rw [if_pos rfl]
      simp only [Bool.and_eq_true, decide_eq_true_eq] at hok
      exact rhold_1 v n p ps.length cap hok.1 x W
    rw [if_neg h1] at hok
    rw [if_neg h1]
    by_cases h23 : k = 2 ∨ k = 3
    · rw [if_pos h23] at hok
      simp only [Bool.and_eq_true, decide_eq_true_eq] at hok
      have hc' := hcall' hok.2.2
      rcases h23 with rfl | rfl
      · rw [if_neg (by decide), if_pos rfl]
        exact rhold_2 v n ps p b off cap P C hl hc hc2 hpp x W hcell' hc'
      · rw [if_neg (by decide), if_neg (by decide)]
        exact rhold_3 v n ps p b off cap P C hl hc hc2 hpp x W hcell' hc'
    · rw [if_neg h23] at hok
      by_cases h4 : k = 4
      · subst h4
        rw [if_pos rfl] at hok
        rw [if_pos rfl]
        simp only [Bool.and_eq_true, decide_eq_true_eq] at hok
        have hc' := hcall' hok.2.2
        have h0 : 0 < ps.length := by omega
        have hpe := hpp (List.length_pos_iff.1 h0)
        subst hpe
        rw [rHoldA_one x ps hok.1 h0]
        exact rhold_4 v n b off ps.length cap h0 hc hc2 ps[0].k ps[0].v ps[0].n (P 0) ps[0].ps.length (C 0) (rHold x ps[0]) x W (fun w' hb' => by have h5 := hcell' w' hb' 0 h0; rw [Nat.zero_mul, Nat.add_zero] at h5; exact h5) (fun w' hb' => hc' w' hb' 0 h0)
      · rw [if_neg h4] at hok; cases hok

def rHoldsR (c : Cd) (x : En) : Bool × Int := if rCond c ≠ 0 then (false, rCond c) else if envE x ≠ 0 then (false, envE x) else (rHold x c, 0)
theorem okC_of (c : Cd) (h : rCond c = 0) : okC c = true := by
  unfold rCond at h
  by_cases h1 : okC c = true
  · exact h1
  · rw [if_neg h1] at h; split at h <;> omega
set_option maxHeartbeats 4000000 in
set_option maxRecDepth 100000 in
theorem rHolds_any (x : En) {w : World} {Q : Nat → Prop} {c : Cd} {p : Option Addr} {cap : Nat} (h : CdIn w Q c p cap) :
    Calls Tryz.prog 25 #[cV c p cap, envV x] w fun e w' => e = .returned (.tuple #[.bool (rHoldsR c x).1, .int .i64 (rHoldsR c x).2]) ∧ Below w.heap.size w w' := by
  have hA := (Below.refl w.heap.size w).alloc (Nat.le_refl _) (.cells #[.int .i64 c.k, .int .i64 c.v, .int .i64 c.n, .slice p c.ps.length cap] 40)
  have hA2 := hA.alloc hA.size (.cells #[.int .i64 x.d, .int .i64 x.f, .int .i64 x.s] 42)
  have HA := Lib.hid hA2
  have HX : Hid (∀ w', Below ((w.alloc (.cells #[.int .i64 c.k, .int .i64 c.v, .int .i64 c.n, .slice p c.ps.length cap] 40)).alloc (.cells #[.int .i64 x.d, .int .i64 x.f, .int .i64 x.s] 42)).heap.size ((w.alloc (.cells #[.int .i64 c.k, .int .i64 c.v, .int .i64 c.n, .slice p c.ps.length cap] 40)).alloc (.cells #[.int .i64 x.d, .int .i64 x.f, .int .i64 x.s] 42)) w' →
      w'.cell? ⟨w.heap.size, 0, none⟩ = some (.int .i64 c.k) ∧ w'.cell? ⟨w.heap.size, 1, none⟩ = some (.int .i64 c.v) ∧ w'.cell? ⟨w.heap.size, 2, none⟩ = some (.int .i64 c.n) ∧ w'.cell? ⟨w.heap.size, 3, none⟩ = some (.slice p c.ps.length cap) ∧ w'.cell? ⟨w.heap.size + 1, 0, none⟩ = some (.int .i64 x.d) ∧ w'.cell? ⟨w.heap.size + 1, 1, none⟩ = some (.int .i64 x.f) ∧ w'.cell? ⟨w.heap.size + 1, 2, none⟩ = some (.int .i64 x.s)) := Lib.hid fun w' hb =>
    ⟨keepc hb (by simp [go_sem]), keepc hb (by simp [go_sem]), keepc hb (by simp [go_sem]), keepc hb (by simp [go_sem]), keepc hb (by simp [go_sem]), keepc hb (by simp [go_sem]), keepc hb (by simp [go_sem])⟩
  have HC : Hid (∀ W, Below w.heap.size w W → Calls Tryz.prog 17 #[cV c p cap] W fun e w' => e = .returned (.int .i64 (rCond c)) ∧ Below W.heap.size W w') := Lib.hid fun W hb => rcond_any (h.bel hb)
  have HN : Hid (∀ W, Calls Tryz.prog 21 #[envV x] W fun e w' => e = .returned (.int .i64 (envE x)) ∧ Below W.heap.size W w') := Lib.hid fun W => renv_any x W
  have HH : Hid (rCond c = 0 → ∀ W, Below w.heap.size w W → Calls Tryz.prog 55 #[cV c p cap, envV x] W fun e w' => e = .returned (.bool (rHold x c)) ∧ Below W.heap.size W w') := Lib.hid fun h0 W hb => rholds_any x h (okC_of c h0) W hb
  unfold rHoldsR
  clear h hA hA2
  unfold cV at *
  unfold envV at *
  generalize rCond c = rc at *
  generalize envE x = re at *
  generalize rHold x c = q at *
  generalize c.k = x1 at *
  generalize c.v = x2 at *
  generalize c.n = x3 at *
  generalize c.ps.length = x4 at *
  by_cases h0 : rc = 0
  · subst h0
    rw [if_neg (fun h => h rfl)]
    by_cases h1 : re = 0
    · subst h1
      rw [if_neg (fun h => h rfl)]
      have HH2 := Lib.hid (HH.out rfl)
      clear HH
      go_enter Tryz.func25, Tryz.ntmps25
      go_wp2_with (first
        | (go_at_call 17; (with_reducible refine (HC.out _ HA.out).mono ?_); rintro e w1 ⟨rfl, hb⟩; obtain ⟨y0, y1, y2, y3, y4, y5, y6⟩ := HX.out _ hb; have HB1 := Lib.hid hb; clear hb)
        | (go_at_call 21; (with_reducible refine (HN.out _).mono ?_); rintro e w2 ⟨rfl, hb⟩; clear y0 y1 y2 y3 y4 y5 y6; obtain ⟨y0, y1, y2, y3, y4, y5, y6⟩ := HX.out _ (HB1.out.trans (hb.mono HB1.out.size)); have HB2 := Lib.hid (HB1.out.trans (hb.mono HB1.out.size)); clear hb)
        | (go_at_call 55; (with_reducible refine (HH2.out _ (HA.out.trans (HB2.out.mono HA.out.size))).mono ?_); rintro e w3 ⟨rfl, hb⟩; have HB3 := Lib.hid (HB2.out.trans (hb.mono HB2.out.size)); clear hb))
      go_ret2
      exact ⟨rfl, HA.out.trans (HB3.out.mono HA.out.size)⟩
    · rw [if_pos h1]
      have hne : (re != 0) = true := by simpa using h1
      clear HH h1
      go_enter Tryz.func25, Tryz.ntmps25
      go_wp2_with (first
        | (go_at_call 17; (with_reducible refine (HC.out _ HA.out).mono ?_); rintro e w1 ⟨rfl, hb⟩; obtain ⟨y0, y1, y2, y3, y4, y5, y6⟩ := HX.out _ hb; have HB1 := Lib.hid hb; clear hb)
        | (go_at_call 21; (with_reducible refine (HN.out _).mono ?_); rintro e w2 ⟨rfl, hb⟩; have HB2 := Lib.hid (HB1.out.trans (hb.mono HB1.out.size)); clear hb))
      go_ret2
      exact ⟨rfl, HA.out.trans (HB2.out.mono HA.out.size)⟩
  · rw [if_pos h0]
    have hne : (rc != 0) = true := by simpa using h0
    clear HH h0
    go_enter Tryz.func25, Tryz.ntmps25
    go_wp2_with (go_at_call 17; (with_reducible refine (HC.out _ HA.out).mono ?_); rintro e w1 ⟨rfl, hb⟩; have HB1 := Lib.hid hb; clear hb)
    go_ret2
    exact ⟨rfl, HA.out.trans (HB1.out.mono HA.out.size)⟩
end Go.Proofs.YtabdgnigmlpeaaaGreatDoor
