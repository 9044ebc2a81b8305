/- Numbers in order; indices; zeros. -/
import Derived.Test.YtabdgnigmlpeaaaGreatDoorTRange
import Derived.Test.YtabdgnigmlpeaaaGreatDoorTEnv
import Derived.Deep.QuietTactic
import Derived.BigQuiet
import Derived.Test.YtabdgnigmlpeaaaGreatDoorTXM
namespace Go.Proofs.YtabdgnigmlpeaaaGreatDoor
open Go.RowKit

/-- No number is less than the one before it. -/
def ascI : List Int → Bool
  | [] => true
  | [_] => true
  | a :: b :: l => decide (a ≤ b) && ascI (b :: l)
theorem ascI_snoc : ∀ (l : List Int) (a b : Int), ascI (l ++ [a, b]) = (ascI (l ++ [a]) && decide (a ≤ b))
  | [], a, b => by simp [ascI]
  | [x], a, b => by simp [ascI]
  | x :: y :: l, a, b => by
    have := ascI_snoc (y :: l) a b
    simp only [List.cons_append] at this ⊢
    rw [ascI, ascI, this, Bool.and_assoc]
theorem ascI_take (ns : List Int) (j : Nat) (h : j + 1 < ns.length) : ascI (ns.take (j + 2)) = (ascI (ns.take (j + 1)) && decide (ns[j] ≤ ns[j + 1])) := by
  rw [List.take_succ_eq_append_getElem (i := j + 1) h, List.take_succ_eq_append_getElem (i := j) (by omega), List.append_assoc]
  exact ascI_snoc _ _ _
theorem bel_drewN {B : Nat} {w w' : World} (h : Below B w w') (n : Nat) : Below B w (w'.drewN n) := ⟨h.os, h.tape, h.output, h.size, h.block⟩
set_option maxHeartbeats 1000000 in
theorem nan_any (a : Int) (w : World) : Calls Tryz.prog 215 #[.int .i64 a] w fun e w' => e = .returned (.bool false) ∧ w' = w := by
  go_enter Tryz.func215, Tryz.ntmps215
  go_wp2_with fail
  go_ret
  exact ⟨by simp, rfl⟩
set_option maxHeartbeats 1000000 in
theorem less_any (a b : Int) (w : World) : Calls Tryz.prog 190 #[.int .i64 a, .int .i64 b] w fun e w' => e = .returned (.bool (decide (a < b))) ∧ w' = w := by
  go_enter Tryz.func190, Tryz.ntmps190
  go_wp2_with (go_at_call 215; (with_reducible refine (nan_any _ _).mono ?_); rintro e w1 ⟨rfl, rfl⟩)
  go_ret
  exact ⟨by simp, rfl⟩
set_option maxHeartbeats 2000000 in
theorem sorted_any (ns : List Int) (p : Option Addr) (b off c : Nat) (w : World) (hp : ns ≠ [] → p = some ⟨b, off, none⟩) (hl : ns.length ≤ 6000000000000)
    (hc : ∀ j (h : j < ns.length), w.cell? ⟨b, off + j, none⟩ = some (.int .i64 ns[j])) :
    Calls Tryz.prog 137 #[.slice p ns.length c] w fun e w' => e = .returned (.bool (ascI ns)) ∧ Below w.heap.size w w' := by
  have HB0 := Lib.hid (Below.refl w.heap.size w)
  obtain ⟨T, hT⟩ : ∃ T, ascI ns = T := ⟨_, rfl⟩
  rw [hT]
  have H0 : Hid (ascI (ns.take ns.length) = T) := Lib.hid (by rw [List.take_length]; exact hT)
  have HE : Hid (∀ w', Below w.heap.size w w' → ∀ j (h : j < ns.length), p = some ⟨b, off, none⟩ ∧ w'.cell? ⟨b, off + j, none⟩ = some (.int .i64 ns[j])) := Lib.hid fun w' hb j hj => ⟨hp (by rintro rfl; simp at hj), keepc hb (hc j hj)⟩
  clear hp hc hT
  have hn1 : IntKind.i64.wrap ((ns.length : Int) - 1) = (ns.length : Int) - 1 := IntWalk.i64_in _ (by omega)
  go_enter Tryz.func137, Tryz.ntmps137
  go_wp2_with fail
  go_loopw [3] (fun i wr => ∃ j : Nat, j ≤ ns.length ∧ i = .int .i64 ((j : Int) - 1) ∧ Hid (ascI (ns.take j) = T) ∧ Hid (Below w.heap.size w wr)) (fun i _ => (intOf i).toNat)
  case atStart => exact ⟨ns.length, Nat.le_refl _, rfl, H0, HB0⟩
  case round =>
    obtain ⟨j, hj, rfl, HI, HB⟩ := hrel
    clear H0 HB0
    by_cases hlt : 1 < j
    · obtain ⟨k, rfl⟩ : ∃ k, j = k + 2 := ⟨j - 2, by omega⟩
      have e1 : ((k + 2 : Nat) : Int) - 1 = (k : Int) + 1 := by omega
      obtain ⟨rfl, c1⟩ := HE.out _ HB.out (k + 1) (by omega)
      obtain ⟨-, c2⟩ := HE.out _ HB.out k (by omega)
      have HI2 := HI.out
      rw [ascI_take ns k (by omega)] at HI2
      rw [e1]
      have hji : (0 : Int) < (k : Int) + 1 := by omega
      have i1 : (k : Int) + 1 < (ns.length : Int) := by omega
      have i2 : (k : Int) < (ns.length : Int) := by omega
      have i3 : (0 : Int) ≤ (k : Int) + 1 := by omega
      have i4 : ((k : Int) + 1).toNat = k + 1 := by omega
      have w1 : IntKind.i64.wrap (k : Int) = (k : Int) := IntWalk.i64_in _ (by omega)
      have w2 : IntKind.i64.wrap ((k : Int) + 1 - 1) = (k : Int) := by rw [IntWalk.i64_in _ (by omega)]; omega
      clear HE HI
      generalize ns[k + 1] = v1 at *
      generalize ns[k] = v2 at *
      by_cases hv : v1 < v2
      · have hd : decide (v2 ≤ v1) = false := decide_eq_false (by omega)
        have hT : T = false := by rw [← HI2, hd, Bool.and_false]
        subst hT
        clear HI2
        go_wp2_with fail
        go_quiet ((go_at_call 190; exact Calls.quiet_of_same (less_any _ _ _)))
        go_wp2_with fail
        go_ret
        exact ⟨rfl, bel_drewN HB.out _⟩
      · have hd : decide (v2 ≤ v1) = true := decide_eq_true (by omega)
        have HI3 : Hid (ascI (ns.take (k + 1)) = T) := Lib.hid (by rw [← HI2, hd, Bool.and_true])
        have hv2 : decide (v1 < v2) = false := decide_eq_false hv
        clear HI2
        go_wp2_with fail
        go_quiet ((go_at_call 190; exact Calls.quiet_of_same (less_any _ _ _)))
        go_wp2_with fail
        go_round
        case rel => exact ⟨k + 1, by omega, by go_num, HI3, Lib.hid (bel_drewN HB.out _)⟩
        case measure => simp [intOf]
    · have hji : ¬ (0 : Int) < (j : Int) - 1 := by omega
      have hT : T = true := by
        have := HI.out
        rw [← this]
        have : j = 0 ∨ j = 1 := by omega
        rcases this with rfl | rfl
        · rw [List.take_zero]; rfl
        · cases ns with
          | nil => rfl
          | cons a l => rfl
      subst hT
      clear HE HI
      go_wp2_with fail
      go_ret
      exact ⟨rfl, HB.out⟩
/-- Numbers that the caller has just laid in a row of their own. -/
theorem rowI_at (ns : List Int) (w : World) : ∀ j (h : j < ns.length), (w.alloc (.cells (ns.map (Value.int .i64)).toArray 3)).cell? ⟨w.heap.size, 0 + j, none⟩ = some (.int .i64 ns[j]) := fun j hj => by
  rw [cell_of_row (w.alloc (.cells (ns.map (Value.int .i64)).toArray 3)) w.heap.size (0 + j) _ _ (0, 0) (heap_alloc_new w _)]
  simp [hj]
set_option maxHeartbeats 1000000 in
theorem ascendingL_any (ns : List Int) (c : Nat) (w : World) (hl : ns.length ≤ 100) (l : Nat) (hn : l = ns.length) :
    Calls Tryz.prog 73 #[.slice (some ⟨w.heap.size, 0, none⟩) l c] (w.alloc (.cells (ns.map (Value.int .i64)).toArray 3)) fun e w' => e = .returned (.bool (ascI ns)) ∧ Below w.heap.size w w' := by
  subst hn
  have hA := (Below.refl w.heap.size w).alloc (Nat.le_refl _) (.cells (ns.map (Value.int .i64)).toArray 3)
  have H := Lib.hid (sorted_any ns _ w.heap.size 0 c _ (fun _ => rfl) (by omega) (rowI_at ns w))
  have HA := Lib.hid hA
  clear hA
  generalize w.alloc (.cells (ns.map (Value.int .i64)).toArray 3) = w2 at *
  generalize ascI ns = q at *
  go_enter Tryz.func73, Tryz.ntmps73
  go_wp2_with (go_at_call 137; (with_reducible refine H.out.mono ?_); rintro e w1 ⟨rfl, hb⟩; have HB1 := Lib.hid (HA.out.trans (hb.mono HA.out.size)); clear hb)
  go_ret
  exact ⟨rfl, HB1.out⟩
set_option maxHeartbeats 1000000 in
theorem isIndexL_any (m : Nat) (hm : m ≤ 1000000000) (ns : List Int) (c : Nat) (w : World) (hl : ns.length ≤ 100) (l : Nat) (hn : l = ns.length) :
    Calls Tryz.prog 72 #[.int .i64 m, .slice (some ⟨w.heap.size, 0, none⟩) l c] (w.alloc (.cells (ns.map (Value.int .i64)).toArray 3)) fun e w' => e = .returned (.bool (ns.all (inI 0 ((m : Int) - 1)))) ∧ Below w.heap.size w w' := by
  subst hn
  have H := Lib.hid (withinL_any 0 ((m : Int) - 1) ns c w hl _ rfl)
  have hw : IntKind.i64.wrap ((m : Int) - 1) = (m : Int) - 1 := IntWalk.i64_in _ (by omega)
  generalize w.alloc (.cells (ns.map (Value.int .i64)).toArray 3) = w2 at *
  generalize ns.all (inI 0 ((m : Int) - 1)) = q at *
  go_enter Tryz.func72, Tryz.ntmps72
  go_wp2_with (go_at_call 51; (with_reducible refine H.out.mono ?_); rintro e w1 ⟨rfl, hb⟩; have HB1 := Lib.hid hb; clear hb)
  go_ret
  exact ⟨rfl, HB1.out⟩
end Go.Proofs.YtabdgnigmlpeaaaGreatDoor
/- The numbers of mats, waves, categories, offences, faults, legs, prizes. -/
namespace Go.Proofs.YtabdgnigmlpeaaaGreatDoor
open Go.RowKit

theorem w1_any (lo hi n : Int) (W : World) (k : Nat) (hk : W.heap.size = k) :
    Calls Tryz.prog 51 #[.int .i64 lo, .int .i64 hi, .slice (some ⟨k, 0, none⟩) 1 1] (W.alloc (.cells #[.int .i64 n] 3)) fun e w' => e = .returned (.bool (inI lo hi n)) ∧ Below W.heap.size W w' := by
  subst hk
  have h := withinL_any lo hi [n] 1 W (by simp) 1 rfl
  rw [List.all_cons, List.all_nil, Bool.and_true] at h
  exact h
theorem w2_any (lo hi n m : Int) (W : World) (k : Nat) (hk : W.heap.size = k) :
    Calls Tryz.prog 51 #[.int .i64 lo, .int .i64 hi, .slice (some ⟨k, 0, none⟩) 2 2] (W.alloc (.cells #[.int .i64 n, .int .i64 m] 3)) fun e w' => e = .returned (.bool (inI lo hi n && inI lo hi m)) ∧ Below W.heap.size W w' := by
  subst hk
  have h := withinL_any lo hi [n, m] 2 W (by simp) 2 rfl
  rw [List.all_cons, List.all_cons, List.all_nil, Bool.and_true] at h
  exact h
theorem ix1_any (m : Nat) (hm : m ≤ 1000000000) (n : Int) (W : World) (k : Nat) (hk : W.heap.size = k) :
    Calls Tryz.prog 72 #[.int .i64 m, .slice (some ⟨k, 0, none⟩) 1 1] (W.alloc (.cells #[.int .i64 n] 3)) fun e w' => e = .returned (.bool (inI 0 ((m : Int) - 1) n)) ∧ Below W.heap.size W w' := by
  subst hk
  have h := isIndexL_any m hm [n] 1 W (by simp) 1 rfl
  rw [List.all_cons, List.all_nil, Bool.and_true] at h
  exact h
theorem ix2_any (m : Nat) (hm : m ≤ 1000000000) (n n' : Int) (W : World) (k : Nat) (hk : W.heap.size = k) :
    Calls Tryz.prog 72 #[.int .i64 m, .slice (some ⟨k, 0, none⟩) 2 2] (W.alloc (.cells #[.int .i64 n, .int .i64 n'] 3)) fun e w' => e = .returned (.bool (inI 0 ((m : Int) - 1) n && inI 0 ((m : Int) - 1) n')) ∧ Below W.heap.size W w' := by
  subst hk
  have h := isIndexL_any m hm [n, n'] 2 W (by simp) 2 rfl
  rw [List.all_cons, List.all_cons, List.all_nil, Bool.and_true] at h
  exact h
theorem asc4_any (a b c d : Int) (W : World) (k : Nat) (hk : W.heap.size = k) :
    Calls Tryz.prog 73 #[.slice (some ⟨k, 0, none⟩) 4 4] (W.alloc (.cells #[.int .i64 a, .int .i64 b, .int .i64 c, .int .i64 d] 3)) fun e w' => e = .returned (.bool (ascI [a, b, c, d])) ∧ Below W.heap.size W w' := by
  subst hk
  exact ascendingL_any [a, b, c, d] 4 W (by simp) 4 rfl

def matR (x : MatD) : Bool := inI 1 3 x.k
def waveR (x : WaveD) : Bool := inI 0 1099511627776 x.g
def catR (x : CatD) : Bool := ascI [0, x.f, x.t, 120]
def offR (x : OffD) : Bool := if x.o = true then x.t == 0 && x.l == 0 else if x.l ≠ 0 then inI 1 64 x.l && x.t == 0 else inI 0 68719476736 x.t
def legR (m : Nat) (x : LegD) : Bool := (inI 0 ((m : Int) - 1) x.f && inI 0 ((m : Int) - 1) x.t) && ascI [0, x.mi, x.ma, 68719476736]
def prizeR (nd nc : Nat) (x : PrizeD) : Bool := inI 0 ((nd : Int) - 1) x.d && ((x.c == -1 || inI 0 ((nc : Int) - 1) x.c) && (inI 1 4000 x.r && inI 1 1125899906842624 x.a))
def faultsR (a b c d e : Int) : Bool := (inI 0 16 a && inI 0 16 b) && ((inI 0 4294967296 c && inI 0 4294967296 d) && inI 0 100000 e)
set_option maxHeartbeats 1000000 in
theorem mat_any (x : MatD) (w : World) : Calls Tryz.prog 76 #[.agg #[.string x.n, .int .i64 x.k]] w fun e w' => e = .returned (.bool (matR x)) ∧ Below w.heap.size w w' := by
  have HA := Lib.hid ((Below.refl w.heap.size w).alloc (Nat.le_refl _) (.cells #[.string x.n, .int .i64 x.k] 70))
  have HN := Lib.hid (w1_any 1 3 x.k (w.alloc (.cells #[.string x.n, .int .i64 x.k] 70)) (w.heap.size + 1) (by simp))
  unfold matR
  generalize inI 1 3 x.k = q at *
  go_enter Tryz.func76, Tryz.ntmps76
  go_wp2_with (go_at_call 51; (with_reducible refine HN.out.mono ?_); rintro e w1 ⟨rfl, hb⟩; have HB := Lib.hid (HA.out.trans (hb.mono HA.out.size)); clear hb)
  go_ret
  exact ⟨rfl, HB.out⟩
set_option maxHeartbeats 1000000 in
theorem wave_any (x : WaveD) (w : World) : Calls Tryz.prog 83 #[.agg #[.string x.n, .int .i64 x.g]] w fun e w' => e = .returned (.bool (waveR x)) ∧ Below w.heap.size w w' := by
  have HA := Lib.hid ((Below.refl w.heap.size w).alloc (Nat.le_refl _) (.cells #[.string x.n, .int .i64 x.g] 81))
  have HN := Lib.hid (w1_any 0 1099511627776 x.g (w.alloc (.cells #[.string x.n, .int .i64 x.g] 81)) (w.heap.size + 1) (by simp))
  unfold waveR
  generalize inI 0 1099511627776 x.g = q at *
  go_enter Tryz.func83, Tryz.ntmps83
  go_wp2_with (go_at_call 51; (with_reducible refine HN.out.mono ?_); rintro e w1 ⟨rfl, hb⟩; have HB := Lib.hid (HA.out.trans (hb.mono HA.out.size)); clear hb)
  go_ret
  exact ⟨rfl, HB.out⟩
set_option maxHeartbeats 1000000 in
theorem cat_any (x : CatD) (w : World) : Calls Tryz.prog 87 #[.agg #[.string x.n, .int .i64 x.f, .int .i64 x.t]] w fun e w' => e = .returned (.bool (catR x)) ∧ Below w.heap.size w w' := by
  have HA := Lib.hid ((Below.refl w.heap.size w).alloc (Nat.le_refl _) (.cells #[.string x.n, .int .i64 x.f, .int .i64 x.t] 121))
  have HN := Lib.hid (asc4_any 0 x.f x.t 120 (w.alloc (.cells #[.string x.n, .int .i64 x.f, .int .i64 x.t] 121)) (w.heap.size + 1) (by simp))
  unfold catR
  generalize ascI [0, x.f, x.t, 120] = q at *
  go_enter Tryz.func87, Tryz.ntmps87
  go_wp2_with (go_at_call 73; (with_reducible refine HN.out.mono ?_); rintro e w1 ⟨rfl, hb⟩; have HB := Lib.hid (HA.out.trans (hb.mono HA.out.size)); clear hb)
  go_ret
  exact ⟨rfl, HB.out⟩
set_option maxHeartbeats 2000000 in
theorem off_any (x : OffD) (w : World) : Calls Tryz.prog 85 #[.agg #[.string x.n, .int .i64 x.t, .int .i64 x.l, .bool x.o]] w fun e w' => e = .returned (.bool (offR x)) ∧ Below w.heap.size w w' := by
  have hA := (Below.refl w.heap.size w).alloc (Nat.le_refl _) (.cells #[.string x.n, .int .i64 x.t, .int .i64 x.l, .bool x.o] 79)
  have HA := Lib.hid hA
  have H1 := Lib.hid (zero2_any x.t x.l (w.alloc (.cells #[.string x.n, .int .i64 x.t, .int .i64 x.l, .bool x.o] 79)) (w.heap.size + 1) (by simp))
  have H2 := Lib.hid (w1_any 1 64 x.l (w.alloc (.cells #[.string x.n, .int .i64 x.t, .int .i64 x.l, .bool x.o] 79)) (w.heap.size + 1) (by simp))
  have H3 := Lib.hid (w1_any 0 68719476736 x.t (w.alloc (.cells #[.string x.n, .int .i64 x.t, .int .i64 x.l, .bool x.o] 79)) (w.heap.size + 1) (by simp))
  have HX : Hid (∀ w', Below (w.alloc (.cells #[.string x.n, .int .i64 x.t, .int .i64 x.l, .bool x.o] 79)).heap.size (w.alloc (.cells #[.string x.n, .int .i64 x.t, .int .i64 x.l, .bool x.o] 79)) w' → w'.cell? ⟨w.heap.size, 1, none⟩ = some (.int .i64 x.t)) := Lib.hid fun w' hb => keepc hb (by simp [go_sem])
  clear hA
  obtain ⟨xn, xt, xl, xo⟩ := x
  unfold offR
  simp only at *
  generalize inI 0 68719476736 xt = q3 at *
  cases xo with
  | true =>
    rw [if_pos rfl]
    clear H2 H3 HX
    generalize (xt == 0 && xl == 0) = q at *
    go_enter Tryz.func85, Tryz.ntmps85
    go_wp2_with (go_at_call 149; (with_reducible refine H1.out.mono ?_); rintro e w1 ⟨rfl, hb⟩; have HB := Lib.hid (HA.out.trans (hb.mono HA.out.size)); clear hb)
    go_ret
    exact ⟨rfl, HB.out⟩
  | false =>
    rw [if_neg (by decide)]
    clear H1
    by_cases hl : xl = 0
    · subst hl
      rw [if_neg (by decide)]
      clear H2 HX
      go_enter Tryz.func85, Tryz.ntmps85
      go_wp2_with (go_at_call 51; (with_reducible refine H3.out.mono ?_); rintro e w1 ⟨rfl, hb⟩; have HB := Lib.hid (HA.out.trans (hb.mono HA.out.size)); clear hb)
      go_ret
      exact ⟨rfl, HB.out⟩
    · rw [if_pos hl]
      have hl2 : (xl != 0) = true := by simpa using hl
      clear H3 hl
      generalize inI 1 64 xl = q2 at *
      cases q2
      all_goals
        go_enter Tryz.func85, Tryz.ntmps85
        go_wp2_with (go_at_call 51; (with_reducible refine H2.out.mono ?_); rintro e w1 ⟨rfl, hb⟩; have y1 := HX.out w1 (hb.mono (Nat.le_refl _)); have HB := Lib.hid (HA.out.trans (hb.mono HA.out.size)); clear hb)
        go_ret
        exact ⟨by simp, HB.out⟩
end Go.Proofs.YtabdgnigmlpeaaaGreatDoor
/- The numbers of legs, prizes, cut-offs, faults. -/
namespace Go.Proofs.YtabdgnigmlpeaaaGreatDoor
open Go.RowKit

set_option maxHeartbeats 2000000 in
theorem leg_any (x : LegD) (B n : Nat) (hn : n ≤ 1000000000) (pm : Option Addr) (cm : Nat) (w : World) (hc : w.cell? ⟨B, 1, none⟩ = some (.slice pm n cm)) :
    Calls Tryz.prog 71 #[.agg #[.int .i64 x.f, .int .i64 x.t, .int .i64 x.mi, .int .i64 x.ma], .pointer (some ⟨B, 0, none⟩)] w fun e w' => e = .returned (.bool (legR n x)) ∧ Below w.heap.size w w' := by
  have hA := (Below.refl w.heap.size w).alloc (Nat.le_refl _) (.cells #[.int .i64 x.f, .int .i64 x.t, .int .i64 x.mi, .int .i64 x.ma] 72)
  have HA := Lib.hid hA
  have y0 := keepc hA hc
  have H1 := Lib.hid (ix2_any n hn x.f x.t (w.alloc (.cells #[.int .i64 x.f, .int .i64 x.t, .int .i64 x.mi, .int .i64 x.ma] 72)) (w.heap.size + 1) (by simp))
  have H2 : Hid (∀ W k, W.heap.size = k → Calls Tryz.prog 73 #[.slice (some ⟨k, 0, none⟩) 4 4] (W.alloc (.cells #[.int .i64 0, .int .i64 x.mi, .int .i64 x.ma, .int .i64 68719476736] 3)) fun e w' => e = .returned (.bool (ascI [0, x.mi, x.ma, 68719476736])) ∧ Below W.heap.size W w') := Lib.hid fun W k hk => asc4_any 0 x.mi x.ma 68719476736 W k hk
  have HX : Hid (∀ w', Below (w.alloc (.cells #[.int .i64 x.f, .int .i64 x.t, .int .i64 x.mi, .int .i64 x.ma] 72)).heap.size (w.alloc (.cells #[.int .i64 x.f, .int .i64 x.t, .int .i64 x.mi, .int .i64 x.ma] 72)) w' → w'.cell? ⟨w.heap.size, 2, none⟩ = some (.int .i64 x.mi) ∧ w'.cell? ⟨w.heap.size, 3, none⟩ = some (.int .i64 x.ma)) := Lib.hid fun w' hb => ⟨keepc hb (by simp [go_sem]), keepc hb (by simp [go_sem])⟩
  clear hA hc
  unfold legR
  generalize ascI [0, x.mi, x.ma, 68719476736] = q2 at *
  generalize (inI 0 ((n : Int) - 1) x.f && inI 0 ((n : Int) - 1) x.t) = q1 at *
  cases q1 with
  | true =>
    go_enter Tryz.func71, Tryz.ntmps71
    go_wp2_with (first
      | (go_at_call 72; (with_reducible refine H1.out.mono ?_); rintro e w1 ⟨rfl, hb⟩; obtain ⟨z0, z1⟩ := HX.out w1 hb; have HB := Lib.hid (HA.out.trans (hb.mono HA.out.size)); clear hb)
      | (go_at_call 73; (with_reducible refine (H2.out _ _ rfl).mono ?_); rintro e w2 ⟨rfl, hb⟩; have HB2 := Lib.hid (HB.out.trans (hb.mono HB.out.size)); clear hb))
    go_ret
    exact ⟨by simp, HB2.out⟩
  | false =>
    go_enter Tryz.func71, Tryz.ntmps71
    go_wp2_with (go_at_call 72; (with_reducible refine H1.out.mono ?_); rintro e w1 ⟨rfl, hb⟩; have HB := Lib.hid (HA.out.trans (hb.mono HA.out.size)); clear hb)
    go_ret
    exact ⟨by simp, HB.out⟩
def cutR (m : Nat) (x : CutD) : Bool := inI 0 ((m : Int) - 1) x.m && (decide (1 ≤ x.l) && inI 0 1099511627776 x.li)
set_option maxHeartbeats 2000000 in
theorem cut_any (x : CutD) (B n : Nat) (hn : n ≤ 1000000000) (w : World) (hc : w.cell? ⟨B, 0, none⟩ = some (.int .i64 n)) :
    Calls Tryz.prog 142 #[.agg #[.int .i64 x.m, .int .i64 x.l, .int .i64 x.li], .pointer (some ⟨B, 0, none⟩)] w fun e w' => e = .returned (.bool (cutR n x)) ∧ Below w.heap.size w w' := by
  have hA := (Below.refl w.heap.size w).alloc (Nat.le_refl _) (.cells #[.int .i64 x.m, .int .i64 x.l, .int .i64 x.li] 74)
  have HA := Lib.hid hA
  have y0 := keepc hA hc
  have H1 := Lib.hid (ix1_any n hn x.m (w.alloc (.cells #[.int .i64 x.m, .int .i64 x.l, .int .i64 x.li] 74)) (w.heap.size + 1) (by simp))
  have H2 : Hid (∀ W k, W.heap.size = k → Calls Tryz.prog 51 #[.int .i64 0, .int .i64 1099511627776, .slice (some ⟨k, 0, none⟩) 1 1] (W.alloc (.cells #[.int .i64 x.li] 3)) fun e w' => e = .returned (.bool (inI 0 1099511627776 x.li)) ∧ Below W.heap.size W w') := Lib.hid fun W k hk => w1_any 0 1099511627776 x.li W k hk
  have HX : Hid (∀ w', Below (w.alloc (.cells #[.int .i64 x.m, .int .i64 x.l, .int .i64 x.li] 74)).heap.size (w.alloc (.cells #[.int .i64 x.m, .int .i64 x.l, .int .i64 x.li] 74)) w' → w'.cell? ⟨w.heap.size, 1, none⟩ = some (.int .i64 x.l) ∧ w'.cell? ⟨w.heap.size, 2, none⟩ = some (.int .i64 x.li)) := Lib.hid fun w' hb => ⟨keepc hb (by simp [go_sem]), keepc hb (by simp [go_sem])⟩
  clear hA hc
  obtain ⟨xm, xl, xi⟩ := x
  unfold cutR
  simp only at *
  generalize inI 0 1099511627776 xi = q2 at *
  generalize inI 0 ((n : Int) - 1) xm = q1 at *
  cases q1 with
  | true =>
    by_cases hl : 1 ≤ xl
    · go_enter Tryz.func142, Tryz.ntmps142
      go_wp2_with (first
        | (go_at_call 72; (with_reducible refine H1.out.mono ?_); rintro e w1 ⟨rfl, hb⟩; obtain ⟨z0, z1⟩ := HX.out w1 hb; have HB := Lib.hid (HA.out.trans (hb.mono HA.out.size)); clear hb)
        | (go_at_call 51; (with_reducible refine (H2.out _ _ rfl).mono ?_); rintro e w2 ⟨rfl, hb⟩; have HB2 := Lib.hid (HB.out.trans (hb.mono HB.out.size)); clear hb))
      go_ret
      exact ⟨by simp [hl], HB2.out⟩
    · have HD : Hid (decide (1 ≤ xl) = false) := Lib.hid (decide_eq_false hl)
      go_enter Tryz.func142, Tryz.ntmps142
      go_wp2_with (go_at_call 72; (with_reducible refine H1.out.mono ?_); rintro e w1 ⟨rfl, hb⟩; obtain ⟨z0, z1⟩ := HX.out w1 hb; have HB := Lib.hid (HA.out.trans (hb.mono HA.out.size)); clear hb)
      go_ret
      exact ⟨by simp [HD.out], HB.out⟩
  | false =>
    go_enter Tryz.func142, Tryz.ntmps142
    go_wp2_with (go_at_call 72; (with_reducible refine H1.out.mono ?_); rintro e w1 ⟨rfl, hb⟩; have HB := Lib.hid (HA.out.trans (hb.mono HA.out.size)); clear hb)
    go_ret
    exact ⟨by simp, HB.out⟩
set_option maxHeartbeats 2000000 in
theorem faults_any (a b c d f : Int) (w : World) : Calls Tryz.prog 91 #[.agg #[.int .i64 a, .int .i64 b, .int .i64 c, .int .i64 d, .int .i64 f]] w fun e w' => e = .returned (.bool (faultsR a b c d f)) ∧ Below w.heap.size w w' := by
  have hA := (Below.refl w.heap.size w).alloc (Nat.le_refl _) (.cells #[.int .i64 a, .int .i64 b, .int .i64 c, .int .i64 d, .int .i64 f] 31)
  have HA := Lib.hid hA
  have H1 := Lib.hid (w2_any 0 16 a b (w.alloc (.cells #[.int .i64 a, .int .i64 b, .int .i64 c, .int .i64 d, .int .i64 f] 31)) (w.heap.size + 1) (by simp))
  have H2 : Hid (∀ W k, W.heap.size = k → Calls Tryz.prog 51 #[.int .i64 0, .int .i64 4294967296, .slice (some ⟨k, 0, none⟩) 2 2] (W.alloc (.cells #[.int .i64 c, .int .i64 d] 3)) fun e w' => e = .returned (.bool (inI 0 4294967296 c && inI 0 4294967296 d)) ∧ Below W.heap.size W w') := Lib.hid fun W k hk => w2_any 0 4294967296 c d W k hk
  have H3 : Hid (∀ W k, W.heap.size = k → Calls Tryz.prog 51 #[.int .i64 0, .int .i64 100000, .slice (some ⟨k, 0, none⟩) 1 1] (W.alloc (.cells #[.int .i64 f] 3)) fun e w' => e = .returned (.bool (inI 0 100000 f)) ∧ Below W.heap.size W w') := Lib.hid fun W k hk => w1_any 0 100000 f W k hk
  have HX : Hid (∀ w', Below (w.alloc (.cells #[.int .i64 a, .int .i64 b, .int .i64 c, .int .i64 d, .int .i64 f] 31)).heap.size (w.alloc (.cells #[.int .i64 a, .int .i64 b, .int .i64 c, .int .i64 d, .int .i64 f] 31)) w' → w'.cell? ⟨w.heap.size, 2, none⟩ = some (.int .i64 c) ∧ w'.cell? ⟨w.heap.size, 3, none⟩ = some (.int .i64 d) ∧ w'.cell? ⟨w.heap.size, 4, none⟩ = some (.int .i64 f)) := Lib.hid fun w' hb => ⟨keepc hb (by simp [go_sem]), keepc hb (by simp [go_sem]), keepc hb (by simp [go_sem])⟩
  clear hA
  unfold faultsR
  generalize (inI 0 16 a && inI 0 16 b) = q1 at *
  generalize (inI 0 4294967296 c && inI 0 4294967296 d) = q2 at *
  generalize inI 0 100000 f = q3 at *
  cases q1 with
  | true =>
    cases q2 with
    | true =>
      go_enter Tryz.func91, Tryz.ntmps91
      go_wp2_with (first
        | (go_at_call 51; (with_reducible refine H1.out.mono ?_); rintro e w1 ⟨rfl, hb⟩; obtain ⟨z0, z1, z2⟩ := HX.out w1 hb; have hb1 := hb; have HB := Lib.hid (HA.out.trans (hb.mono HA.out.size)); clear hb)
        | (go_at_call 51; (with_reducible refine (H2.out _ _ rfl).mono ?_); rintro e w2 ⟨rfl, hb⟩; obtain ⟨z3, z4, z5⟩ := HX.out w2 (hb1.trans (hb.mono hb1.size)); have HB2 := Lib.hid (HB.out.trans (hb.mono HB.out.size)); clear hb)
        | (go_at_call 51; (with_reducible refine (H3.out _ _ rfl).mono ?_); rintro e w3 ⟨rfl, hb⟩; have HB3 := Lib.hid (HB2.out.trans (hb.mono HB2.out.size)); clear hb))
      go_ret
      exact ⟨by simp, HB3.out⟩
    | false =>
      go_enter Tryz.func91, Tryz.ntmps91
      go_wp2_with (first
        | (go_at_call 51; (with_reducible refine H1.out.mono ?_); rintro e w1 ⟨rfl, hb⟩; obtain ⟨z0, z1, z2⟩ := HX.out w1 hb; have HB := Lib.hid (HA.out.trans (hb.mono HA.out.size)); clear hb)
        | (go_at_call 51; (with_reducible refine (H2.out _ _ rfl).mono ?_); rintro e w2 ⟨rfl, hb⟩; have HB2 := Lib.hid (HB.out.trans (hb.mono HB.out.size)); clear hb))
      go_ret
      exact ⟨by simp, HB2.out⟩
  | false =>
    go_enter Tryz.func91, Tryz.ntmps91
    go_wp2_with (go_at_call 51; (with_reducible refine H1.out.mono ?_); rintro e w1 ⟨rfl, hb⟩; have HB := Lib.hid (HA.out.trans (hb.mono HA.out.size)); clear hb)
    go_ret
    exact ⟨by simp, HB.out⟩
end Go.Proofs.YtabdgnigmlpeaaaGreatDoor
/- The numbers of prizes, of the parts of a route, of a distance. -/
namespace Go.Proofs.YtabdgnigmlpeaaaGreatDoor
open Go.RowKit

set_option maxHeartbeats 4000000 in
theorem prize_any (x : PrizeD) (B nd nc : Nat) (hnd : nd ≤ 1000000000) (hnc : nc ≤ 1000000000) (pd pc : Option Addr) (cd cc : Nat) (w : World) (h3 : w.cell? ⟨B, 3, none⟩ = some (.slice pd nd cd)) (h6 : w.cell? ⟨B, 6, none⟩ = some (.slice pc nc cc)) :
    Calls Tryz.prog 74 #[.agg #[.int .i64 x.d, .int .i64 x.c, .int .i64 x.r, .int .i64 x.a], .pointer (some ⟨B, 0, none⟩)] w fun e w' => e = .returned (.bool (prizeR nd nc x)) ∧ Below w.heap.size w w' := by
  have hA := (Below.refl w.heap.size w).alloc (Nat.le_refl _) (.cells #[.int .i64 x.d, .int .i64 x.c, .int .i64 x.r, .int .i64 x.a] 77)
  have HA := Lib.hid hA
  have H1 := Lib.hid (ix1_any nd hnd x.d (w.alloc (.cells #[.int .i64 x.d, .int .i64 x.c, .int .i64 x.r, .int .i64 x.a] 77)) (w.heap.size + 1) (by simp))
  have H2 : Hid (∀ W k, W.heap.size = k → Calls Tryz.prog 72 #[.int .i64 nc, .slice (some ⟨k, 0, none⟩) 1 1] (W.alloc (.cells #[.int .i64 x.c] 3)) fun e w' => e = .returned (.bool (inI 0 ((nc : Int) - 1) x.c)) ∧ Below W.heap.size W w') := Lib.hid fun W k hk => ix1_any nc hnc x.c W k hk
  have H3 : Hid (∀ W k, W.heap.size = k → Calls Tryz.prog 51 #[.int .i64 1, .int .i64 4000, .slice (some ⟨k, 0, none⟩) 1 1] (W.alloc (.cells #[.int .i64 x.r] 3)) fun e w' => e = .returned (.bool (inI 1 4000 x.r)) ∧ Below W.heap.size W w') := Lib.hid fun W k hk => w1_any 1 4000 x.r W k hk
  have H4 : Hid (∀ W k, W.heap.size = k → Calls Tryz.prog 51 #[.int .i64 1, .int .i64 1125899906842624, .slice (some ⟨k, 0, none⟩) 1 1] (W.alloc (.cells #[.int .i64 x.a] 3)) fun e w' => e = .returned (.bool (inI 1 1125899906842624 x.a)) ∧ Below W.heap.size W w') := Lib.hid fun W k hk => w1_any 1 1125899906842624 x.a W k hk
  have HX : Hid (∀ w', Below (w.alloc (.cells #[.int .i64 x.d, .int .i64 x.c, .int .i64 x.r, .int .i64 x.a] 77)).heap.size (w.alloc (.cells #[.int .i64 x.d, .int .i64 x.c, .int .i64 x.r, .int .i64 x.a] 77)) w' → w'.cell? ⟨w.heap.size, 1, none⟩ = some (.int .i64 x.c) ∧ w'.cell? ⟨w.heap.size, 2, none⟩ = some (.int .i64 x.r) ∧ w'.cell? ⟨w.heap.size, 3, none⟩ = some (.int .i64 x.a) ∧ w'.cell? ⟨B, 6, none⟩ = some (.slice pc nc cc)) := Lib.hid fun w' hb => ⟨keepc hb (by simp [go_sem]), keepc hb (by simp [go_sem]), keepc hb (by simp [go_sem]), keepc hb (keepc hA h6)⟩
  have y3 := keepc hA h3
  clear hA h3 h6
  obtain ⟨xd, xc, xr, xa⟩ := x
  unfold prizeR
  simp only at *
  generalize inI 1 1125899906842624 xa = q4 at *
  generalize inI 1 4000 xr = q3 at *
  generalize inI 0 ((nc : Int) - 1) xc = q2 at *
  generalize inI 0 ((nd : Int) - 1) xd = q1 at *
  cases q1 with
  | false =>
    go_enter Tryz.func74, Tryz.ntmps74
    go_wp2_with (go_at_call 72; (with_reducible refine H1.out.mono ?_); rintro e w1 ⟨rfl, hb⟩; have HB := Lib.hid (HA.out.trans (hb.mono HA.out.size)); clear hb)
    go_ret
    exact ⟨by simp, HB.out⟩
  | true =>
    by_cases hc : xc = -1
    · subst hc
      cases q3 with
      | false =>
        go_enter Tryz.func74, Tryz.ntmps74
        go_wp2_with (first
          | (go_at_call 72; (with_reducible refine H1.out.mono ?_); rintro e w1 ⟨rfl, hb⟩; obtain ⟨z0, z1, z2, z3⟩ := HX.out w1 hb; have hb1 := hb; have HB := Lib.hid (HA.out.trans (hb.mono HA.out.size)); clear hb)
          | (go_at_call 51; (with_reducible refine (H3.out _ _ rfl).mono ?_); rintro e w3 ⟨rfl, hb⟩; have HB3 := Lib.hid (HB.out.trans (hb.mono HB.out.size)); clear hb))
        go_ret
        exact ⟨by simp, HB3.out⟩
      | true =>
        go_enter Tryz.func74, Tryz.ntmps74
        go_wp2_with (first
          | (go_at_call 72; (with_reducible refine H1.out.mono ?_); rintro e w1 ⟨rfl, hb⟩; obtain ⟨z0, z1, z2, z3⟩ := HX.out w1 hb; have hb1 := hb; have HB := Lib.hid (HA.out.trans (hb.mono HA.out.size)); clear hb)
          | (go_at_call 51; (with_reducible refine (H3.out _ _ rfl).mono ?_); rintro e w3 ⟨rfl, hb⟩; obtain ⟨v0, v1, v2, v3⟩ := HX.out w3 (hb1.trans (hb.mono hb1.size)); have HB3 := Lib.hid (HB.out.trans (hb.mono HB.out.size)); clear hb)
          | (go_at_call 51; (with_reducible refine (H4.out _ _ rfl).mono ?_); rintro e w4 ⟨rfl, hb⟩; have HB4 := Lib.hid (HB3.out.trans (hb.mono HB3.out.size)); clear hb))
        go_ret
        exact ⟨by simp, HB4.out⟩
    · have HD : Hid ((xc == -1) = false) := Lib.hid (by simpa using hc)
      have hd2 := HD.out
      cases q2 with
      | false =>
        go_enter Tryz.func74, Tryz.ntmps74
        go_wp2_with (first
          | (go_at_call 72; (with_reducible refine H1.out.mono ?_); rintro e w1 ⟨rfl, hb⟩; obtain ⟨z0, z1, z2, z3⟩ := HX.out w1 hb; have hb1 := hb; have HB := Lib.hid (HA.out.trans (hb.mono HA.out.size)); clear hb)
          | (go_at_call 72; (with_reducible refine (H2.out _ _ rfl).mono ?_); rintro e w2 ⟨rfl, hb⟩; have HB2 := Lib.hid (HB.out.trans (hb.mono HB.out.size)); clear hb))
        go_ret
        exact ⟨by simp [HD.out], HB2.out⟩
      | true =>
        cases q3 with
        | false =>
          go_enter Tryz.func74, Tryz.ntmps74
          go_wp2_with (first
            | (go_at_call 72; (with_reducible refine H1.out.mono ?_); rintro e w1 ⟨rfl, hb⟩; obtain ⟨z0, z1, z2, z3⟩ := HX.out w1 hb; have hb1 := hb; have HB := Lib.hid (HA.out.trans (hb.mono HA.out.size)); clear hb)
            | (go_at_call 72; (with_reducible refine (H2.out _ _ rfl).mono ?_); rintro e w2 ⟨rfl, hb⟩; obtain ⟨v0, v1, v2, v3⟩ := HX.out w2 (hb1.trans (hb.mono hb1.size)); have HB2 := Lib.hid (HB.out.trans (hb.mono HB.out.size)); clear hb)
            | (go_at_call 51; (with_reducible refine (H3.out _ _ rfl).mono ?_); rintro e w3 ⟨rfl, hb⟩; have HB3 := Lib.hid (HB2.out.trans (hb.mono HB2.out.size)); clear hb))
          go_ret
          exact ⟨by simp [HD.out], HB3.out⟩
        | true =>
          go_enter Tryz.func74, Tryz.ntmps74
          go_wp2_with (first
            | (go_at_call 72; (with_reducible refine H1.out.mono ?_); rintro e w1 ⟨rfl, hb⟩; obtain ⟨z0, z1, z2, z3⟩ := HX.out w1 hb; have hb1 := hb; have HB := Lib.hid (HA.out.trans (hb.mono HA.out.size)); clear hb)
            | (go_at_call 72; (with_reducible refine (H2.out _ _ rfl).mono ?_); rintro e w2 ⟨rfl, hb⟩; have hb2 := hb1.trans (hb.mono hb1.size); obtain ⟨v0, v1, v2, v3⟩ := HX.out w2 hb2; have HB2 := Lib.hid (HB.out.trans (hb.mono HB.out.size)); clear hb)
            | (go_at_call 51; (with_reducible refine (H3.out _ _ rfl).mono ?_); rintro e w3 ⟨rfl, hb⟩; obtain ⟨s0, s1, s2, s3⟩ := HX.out w3 (hb2.trans (hb.mono hb2.size)); have HB3 := Lib.hid (HB2.out.trans (hb.mono HB2.out.size)); clear hb)
            | (go_at_call 51; (with_reducible refine (H4.out _ _ rfl).mono ?_); rintro e w4 ⟨rfl, hb⟩; have HB4 := Lib.hid (HB3.out.trans (hb.mono HB3.out.size)); clear hb))
          go_ret
          exact ⟨by simp [HD.out], HB4.out⟩
end Go.Proofs.YtabdgnigmlpeaaaGreatDoor
/- The numbers of the parts of a route. -/
namespace Go.Proofs.YtabdgnigmlpeaaaGreatDoor
open Go.RowKit

mutual
def ptR (m : Nat) : Pt → Bool
  | .mk a l ps => if l = 0 then inI 0 ((m : Int) - 1) a && ps.isEmpty else inI 1 64 l && (a == 0 && (!ps.isEmpty && ptsR m ps))
def ptsR (m : Nat) : List Pt → Bool
  | [] => true
  | p :: l => ptR m p && ptsR m l
end
theorem ptsR_eq (m : Nat) : ∀ l : List Pt, ptsR m l = l.all (ptR m)
  | [] => by rw [ptsR]; rfl
  | p :: l => by rw [ptsR, ptsR_eq m l]; rfl
theorem ptR_eq (m : Nat) (c : Pt) : ptR m c = if c.l = 0 then inI 0 ((m : Int) - 1) c.m && c.ps.isEmpty else inI 1 64 c.l && (c.m == 0 && (!c.ps.isEmpty && ptsR m c.ps)) := by
  obtain ⟨a, l, ps⟩ := c
  rw [ptR]; rfl
set_option maxHeartbeats 4000000 in
theorem part1_any (c : Pt) (p : Option Addr) (cap B m : Nat) (hm : m ≤ 1000000000) (w : World) (hc : w.cell? ⟨B, 0, none⟩ = some (.int .i64 m))
    (hrec : ∀ W, Below w.heap.size w W → Calls Tryz.prog 143 #[.slice p c.ps.length cap, .int .i64 m] W fun e w' => e = .returned (.bool (ptsR m c.ps)) ∧ Below W.heap.size W w') :
    Calls Tryz.prog 193 #[pV c p cap, .pointer (some ⟨B, 0, none⟩)] w fun e w' => e = .returned (.bool (ptR m c)) ∧ Below w.heap.size w w' := by
  have hA := (Below.refl w.heap.size w).alloc (Nat.le_refl _) (.cells #[.int .i64 c.m, .int .i64 c.l, .slice p c.ps.length cap] 105)
  have HA := Lib.hid hA
  have y0 := keepc hA hc
  have H1 := Lib.hid (ix1_any m hm c.m (w.alloc (.cells #[.int .i64 c.m, .int .i64 c.l, .slice p c.ps.length cap] 105)) (w.heap.size + 1) (by simp))
  have H2 := Lib.hid (w1_any 1 64 c.l (w.alloc (.cells #[.int .i64 c.m, .int .i64 c.l, .slice p c.ps.length cap] 105)) (w.heap.size + 1) (by simp))
  have HX : Hid (∀ w', Below (w.alloc (.cells #[.int .i64 c.m, .int .i64 c.l, .slice p c.ps.length cap] 105)).heap.size (w.alloc (.cells #[.int .i64 c.m, .int .i64 c.l, .slice p c.ps.length cap] 105)) w' → w'.cell? ⟨w.heap.size, 0, none⟩ = some (.int .i64 c.m) ∧ w'.cell? ⟨w.heap.size, 2, none⟩ = some (.slice p c.ps.length cap) ∧ w'.cell? ⟨B, 0, none⟩ = some (.int .i64 m)) := Lib.hid fun w' hb => ⟨keepc hb (by simp [go_sem]), keepc hb (by simp [go_sem]), keepc hb (keepc hA hc)⟩
  have HR := Lib.hid hrec
  rw [ptR_eq]
  have hpe : c.ps.isEmpty = decide (c.ps.length = 0) := by cases c.ps <;> simp
  rw [hpe]
  clear hA hc hrec hpe
  unfold pV
  generalize ptsR m c.ps = q3 at *
  generalize c.ps.length = n at *
  generalize c.m = a at *
  generalize c.l = l at *
  generalize inI 0 ((m : Int) - 1) a = q1 at *
  generalize inI 1 64 l = q2 at *
  by_cases hl : l = 0
  · subst hl
    rw [if_pos rfl]
    clear H2 HR
    cases q1 with
    | false =>
      go_enter Tryz.func193, Tryz.ntmps193
      go_wp2_with (go_at_call 72; (with_reducible refine H1.out.mono ?_); rintro e w1 ⟨rfl, hb⟩; have HB := Lib.hid (HA.out.trans (hb.mono HA.out.size)); clear hb)
      go_ret
      exact ⟨by simp, HB.out⟩
    | true =>
      by_cases hn : n = 0
      · subst hn
        go_enter Tryz.func193, Tryz.ntmps193
        go_wp2_with (go_at_call 72; (with_reducible refine H1.out.mono ?_); rintro e w1 ⟨rfl, hb⟩; obtain ⟨z0, z1, z2⟩ := HX.out w1 hb; have HB := Lib.hid (HA.out.trans (hb.mono HA.out.size)); clear hb)
        go_ret
        exact ⟨by simp, HB.out⟩
      · have HD : Hid (decide (n = 0) = false) := Lib.hid (decide_eq_false hn)
        have hn2 : ((n : Int) == 0) = false := by simpa using hn
        go_enter Tryz.func193, Tryz.ntmps193
        go_wp2_with (go_at_call 72; (with_reducible refine H1.out.mono ?_); rintro e w1 ⟨rfl, hb⟩; obtain ⟨z0, z1, z2⟩ := HX.out w1 hb; have HB := Lib.hid (HA.out.trans (hb.mono HA.out.size)); clear hb)
        go_ret
        exact ⟨by simp [HD.out], HB.out⟩
  · rw [if_neg hl]
    have hl2 : (l == 0) = false := by simpa using hl
    clear H1
    cases q2 with
    | false =>
      go_enter Tryz.func193, Tryz.ntmps193
      go_wp2_with (go_at_call 51; (with_reducible refine H2.out.mono ?_); rintro e w1 ⟨rfl, hb⟩; have HB := Lib.hid (HA.out.trans (hb.mono HA.out.size)); clear hb)
      go_ret
      exact ⟨by simp, HB.out⟩
    | true =>
      by_cases ha : a = 0
      · subst ha
        by_cases hn : n = 0
        · subst hn
          go_enter Tryz.func193, Tryz.ntmps193
          go_wp2_with (go_at_call 51; (with_reducible refine H2.out.mono ?_); rintro e w1 ⟨rfl, hb⟩; obtain ⟨z0, z1, z2⟩ := HX.out w1 hb; have HB := Lib.hid (HA.out.trans (hb.mono HA.out.size)); clear hb)
          go_ret
          exact ⟨by simp, HB.out⟩
        · have HD : Hid (decide (n = 0) = false) := Lib.hid (decide_eq_false hn)
          have hn2 : (0 : Int) < (n : Int) := by omega
          go_enter Tryz.func193, Tryz.ntmps193
          go_wp2_with (first
            | (go_at_call 51; (with_reducible refine H2.out.mono ?_); rintro e w1 ⟨rfl, hb⟩; obtain ⟨z0, z1, z2⟩ := HX.out w1 hb; have HB := Lib.hid (HA.out.trans (hb.mono HA.out.size)); clear hb)
            | (go_at_call 143; (with_reducible refine (HR.out _ HB.out).mono ?_); rintro e w2 ⟨rfl, hb⟩; have HB2 := Lib.hid (HB.out.trans (hb.mono HB.out.size)); clear hb))
          go_ret
          exact ⟨by simp [HD.out], HB2.out⟩
      · have HD : Hid ((a == 0) = false) := Lib.hid (by simpa using ha)
        have ha2 := HD.out
        go_enter Tryz.func193, Tryz.ntmps193
        go_wp2_with (go_at_call 51; (with_reducible refine H2.out.mono ?_); rintro e w1 ⟨rfl, hb⟩; obtain ⟨z0, z1, z2⟩ := HX.out w1 hb; have HB := Lib.hid (HA.out.trans (hb.mono HA.out.size)); clear hb)
        go_ret
        exact ⟨by simp [HD.out], HB.out⟩
set_option maxHeartbeats 2000000 in
theorem partsIn_any (m : Nat) (hm : m ≤ 1000000000) {w0 : World} {Q : Nat → Prop} {c : Pt} {p : Option Addr} {cap : Nat} (h : PtIn w0 Q c p cap) : ∀ W, Below w0.heap.size w0 W →
    Calls Tryz.prog 143 #[.slice p c.ps.length cap, .int .i64 m] W fun e w' => e = .returned (.bool (ptsR m c.ps)) ∧ Below W.heap.size W w' := by
  induction h with
  | mk a l ps p cap b off P C hl hc hc2 hp hb hcell hsub ih =>
    intro W hW
    show Calls _ _ #[.slice p ps.length cap, _] W fun e w' => e = .returned (.bool (ptsR m ps)) ∧ Below W.heap.size W w'
    have hA := (Below.refl W.heap.size W).alloc (Nat.le_refl _) (.cells #[.int .i64 m] 3)
    have HA := Lib.hid hA
    have hcm : (W.alloc (.cells #[.int .i64 m] 3)).cell? ⟨W.heap.size, 0, none⟩ = some (.int .i64 m) := by simp [go_sem]
    have HN : Hid (Calls Tryz.prog 126 #[.slice p ps.length cap, .func (Fn.func 193) #[] #[.pointer (some ⟨W.heap.size, 0, none⟩)]] (W.alloc (.cells #[.int .i64 m] 3)) fun e w' => e = .returned (.bool (ptsR m ps)) ∧ Below (W.alloc (.cells #[.int .i64 m] 3)).heap.size (W.alloc (.cells #[.int .i64 m] 3)) w') := Lib.hid (by
      rw [ptsR_eq]
      have hW1 := hW.trans (hA.mono hW.size)
      generalize W.alloc (.cells #[.int .i64 m] 3) = W1 at *
      have hg : ∀ j (h : j < ps.length), ps.getD j Pt.zero = ps[j] := fun j h => by simp [List.getD, h]
      refine allB_part (ptR m) 193 #[.pointer (some ⟨W.heap.size, 0, none⟩)] (enters_of Tryz.func193 (by kernel_rfl) rfl) ps (fun j => .int .i64 (ps.getD j Pt.zero).m) (fun j => .int .i64 (ps.getD j Pt.zero).l) (fun j => .slice (P j) (ps.getD j Pt.zero).ps.length (C j)) p b off cap
        (fun hne => (hb hne).1) hl W1 (fun hne => Nat.lt_of_lt_of_le (hb hne).2.2 hW1.size) (fun j hj => ?_) (fun W2 j hj hW2 => ?_)
      · obtain ⟨a0, a1, a2⟩ := hcell j hj
        rw [hg j hj]
        exact ⟨keepc hW1 a0, keepc hW1 a1, keepc hW1 a2⟩
      · rw [hg j hj]
        exact part1_any ps[j] (P j) (C j) W.heap.size m hm W2 (keepc hW2 hcm) fun W3 hW3 => ih j hj W3 ((hW1.trans (hW2.mono hW1.size)).trans (hW3.mono (Nat.le_trans hW1.size hW2.size))))
    clear ih hsub hcell hb hW hA hcm
    generalize ptsR m ps = q at *
    have hmf : ∀ (fn : Fn) (first cap : Array Value) (w : World), (Instr.makeFunc fn first cap).run Tryz.prog w = .ok (.func fn first cap) w := fun _ _ _ _ => rfl
    go_enter Tryz.func143, Tryz.ntmps143
    go_wp2_with (go_at_call 126; (with_reducible refine HN.out.mono ?_); rintro e w1 ⟨rfl, hb⟩; have HB := Lib.hid (HA.out.trans (hb.mono HA.out.size)); clear hb)
    go_ret
    exact ⟨rfl, HB.out⟩
end Go.Proofs.YtabdgnigmlpeaaaGreatDoor
/- The numbers of a distance. -/
namespace Go.Proofs.YtabdgnigmlpeaaaGreatDoor
open Go.RowKit

def distR (m : Nat) (d : DistD) : Bool := inI 1 3 d.t && (ptsR m d.r && (d.cs.all (cutR m) && (d.x == -1 || inI 0 ((m : Int) - 1) d.x)))
/-- The cut-offs, in whatever world. -/
theorem cuts_any (m : Nat) (hm : m ≤ 1000000000) {w : World} {Q : Nat → Prop} {l : List CutD} {p : Option Addr} {cap : Nat} (h : FlatIn w Q 3 CutD.cells l p cap) (B : Nat) (W : World) (hW : Below w.heap.size w W) (hc : W.cell? ⟨B, 0, none⟩ = some (.int .i64 m)) :
    Calls Tryz.prog 144 #[.slice p l.length cap, .func (Fn.func 142) #[] #[.pointer (some ⟨B, 0, none⟩)]] W fun e w' => e = .returned (.bool (l.all (cutR m))) ∧ Below W.heap.size W w' := by
  obtain ⟨b, off, hL, hcell⟩ := h.bel hW
  let z : CutD := ⟨0, 0, 0⟩
  have hz : ∀ j (h : j < l.length), l.getD j z = l[j] := fun j h => by simp [List.getD, h]
  refine allB_cut (cutR m) 142 #[.pointer (some ⟨B, 0, none⟩)] (enters_of Tryz.func142 (by kernel_rfl) rfl) l (fun j => .int .i64 (l.getD j z).m) (fun j => .int .i64 (l.getD j z).l) (fun j => .int .i64 (l.getD j z).li) p b off cap
    (fun hne => (hL.hb (by simpa using hne)).1) hL.hl W (fun hne => (hL.hb (by simpa using hne)).2.2) (fun j hj => ?_) (fun W2 j hj hW2 => ?_)
  · rw [hz j hj]
    exact ⟨hcell j hj 0 _ rfl, hcell j hj 1 _ rfl, hcell j hj 2 _ rfl⟩
  · rw [hz j hj]
    exact cut_any l[j] B m hm W2 (keepc hW2 hc)
set_option maxHeartbeats 4000000 in
theorem dist_any (m : Nat) (hm : m ≤ 1000000000) {w : World} {Q : Nat → Prop} {d : DistD} {x : DLoc} (h : DistIn w Q d x) :
    Calls Tryz.prog 81 #[distV d x, .int .i64 m] w fun e w' => e = .returned (.bool (distR m d)) ∧ Below w.heap.size w w' := by
  have hA0 := (Below.refl w.heap.size w).alloc (Nat.le_refl _) (.cells #[.string d.n, .slice x.pr d.r.length x.cr, .int .i64 d.t, .slice x.pc d.cs.length x.cc, .int .i64 d.x] 66)
  have hA := hA0.alloc hA0.size (.cells #[.int .i64 m] 3)
  have HA := Lib.hid hA
  have N2 : Hid (∀ W, Below w.heap.size w W → Calls Tryz.prog 143 #[.slice x.pr d.r.length x.cr, .int .i64 m] W fun e w' => e = .returned (.bool (ptsR m d.r)) ∧ Below W.heap.size W w') := Lib.hid fun W hW => partsIn_any m hm h.route W hW
  have N3 : Hid (∀ B W, Below w.heap.size w W → W.cell? ⟨B, 0, none⟩ = some (.int .i64 m) → Calls Tryz.prog 144 #[.slice x.pc d.cs.length x.cc, .func (Fn.func 142) #[] #[.pointer (some ⟨B, 0, none⟩)]] W fun e w' => e = .returned (.bool (d.cs.all (cutR m))) ∧ Below W.heap.size W w') := Lib.hid fun B W hW hc => cuts_any m hm h.cuts B W hW hc
  have HX : Hid (∀ w', Below ((w.alloc (.cells #[.string d.n, .slice x.pr d.r.length x.cr, .int .i64 d.t, .slice x.pc d.cs.length x.cc, .int .i64 d.x] 66)).alloc (.cells #[.int .i64 m] 3)).heap.size ((w.alloc (.cells #[.string d.n, .slice x.pr d.r.length x.cr, .int .i64 d.t, .slice x.pc d.cs.length x.cc, .int .i64 d.x] 66)).alloc (.cells #[.int .i64 m] 3)) w' →
      w'.cell? ⟨w.heap.size, 1, none⟩ = some (.slice x.pr d.r.length x.cr) ∧ w'.cell? ⟨w.heap.size, 3, none⟩ = some (.slice x.pc d.cs.length x.cc) ∧ w'.cell? ⟨w.heap.size, 4, none⟩ = some (.int .i64 d.x) ∧ w'.cell? ⟨w.heap.size + 1, 0, none⟩ = some (.int .i64 m)) := Lib.hid fun w' hb => ⟨keepc hb (by simp [go_sem]), keepc hb (by simp [go_sem]), keepc hb (by simp [go_sem]), keepc hb (by simp [go_sem])⟩
  have N1 := Lib.hid (w1_any 1 3 d.t ((w.alloc (.cells #[.string d.n, .slice x.pr d.r.length x.cr, .int .i64 d.t, .slice x.pc d.cs.length x.cc, .int .i64 d.x] 66)).alloc (.cells #[.int .i64 m] 3)) (w.heap.size + 1 + 1) (by simp))
  have N4 : Hid (∀ W k, W.heap.size = k → Calls Tryz.prog 72 #[.int .i64 m, .slice (some ⟨k, 0, none⟩) 1 1] (W.alloc (.cells #[.int .i64 d.x] 3)) fun e w' => e = .returned (.bool (inI 0 ((m : Int) - 1) d.x)) ∧ Below W.heap.size W w') := Lib.hid fun W k hk => ix1_any m hm d.x W k hk
  have hmf : ∀ (fn : Fn) (first cap : Array Value) (w : World), (Instr.makeFunc fn first cap).run Tryz.prog w = .ok (.func fn first cap) w := fun _ _ _ _ => rfl
  clear hA hA0 h
  unfold distR distV DistD.cells
  obtain ⟨dn, dr, dt, dc, dx⟩ := d
  simp only at *
  generalize dc.all (cutR m) = q3 at *
  generalize ptsR m dr = q2 at *
  generalize inI 1 3 dt = q1 at *
  generalize inI 0 ((m : Int) - 1) dx = q4 at *
  generalize dr.length = n1 at *
  generalize dc.length = n2 at *
  cases q1 with
  | false =>
    go_enter Tryz.func81, Tryz.ntmps81
    go_wp2_with (go_at_call 51; (with_reducible refine N1.out.mono ?_); rintro e w1 ⟨rfl, hb⟩; have HB1 := Lib.hid (HA.out.trans (hb.mono HA.out.size)); clear hb)
    go_ret
    exact ⟨by simp, HB1.out⟩
  | true =>
    cases q2 with
    | false =>
      go_enter Tryz.func81, Tryz.ntmps81
      go_wp2_with (first
        | (go_at_call 51; (with_reducible refine N1.out.mono ?_); rintro e w1 ⟨rfl, hb⟩; have hb1 := hb; obtain ⟨z0, z1, z2, z3⟩ := HX.out w1 hb1; have HB1 := Lib.hid (HA.out.trans (hb.mono HA.out.size)); clear hb)
        | (go_at_call 143; (with_reducible refine (N2.out _ HB1.out).mono ?_); rintro e w2 ⟨rfl, hb⟩; have HB2 := Lib.hid (HB1.out.trans (hb.mono HB1.out.size)); clear hb))
      go_ret
      exact ⟨by simp, HB2.out⟩
    | true =>
      cases q3 with
      | false =>
        go_enter Tryz.func81, Tryz.ntmps81
        go_wp2_with (first
          | (go_at_call 51; (with_reducible refine N1.out.mono ?_); rintro e w1 ⟨rfl, hb⟩; have hb1 := hb; obtain ⟨z0, z1, z2, z3⟩ := HX.out w1 hb1; have HB1 := Lib.hid (HA.out.trans (hb.mono HA.out.size)); clear hb)
          | (go_at_call 143; (with_reducible refine (N2.out _ HB1.out).mono ?_); rintro e w2 ⟨rfl, hb⟩; have hb2 := hb1.trans (hb.mono hb1.size); obtain ⟨v0, v1, v2, v3⟩ := HX.out w2 hb2; have HB2 := Lib.hid (HB1.out.trans (hb.mono HB1.out.size)); clear hb)
          | (go_at_call 144; (with_reducible refine (N3.out _ _ HB2.out v3).mono ?_); rintro e w3 ⟨rfl, hb⟩; have HB3 := Lib.hid (HB2.out.trans (hb.mono HB2.out.size)); clear hb))
        go_ret
        exact ⟨by simp, HB3.out⟩
      | true =>
        by_cases hx : dx = -1
        · subst hx
          go_enter Tryz.func81, Tryz.ntmps81
          go_wp2_with (first
            | (go_at_call 51; (with_reducible refine N1.out.mono ?_); rintro e w1 ⟨rfl, hb⟩; have hb1 := hb; obtain ⟨z0, z1, z2, z3⟩ := HX.out w1 hb1; have HB1 := Lib.hid (HA.out.trans (hb.mono HA.out.size)); clear hb)
            | (go_at_call 143; (with_reducible refine (N2.out _ HB1.out).mono ?_); rintro e w2 ⟨rfl, hb⟩; have hb2 := hb1.trans (hb.mono hb1.size); obtain ⟨v0, v1, v2, v3⟩ := HX.out w2 hb2; have HB2 := Lib.hid (HB1.out.trans (hb.mono HB1.out.size)); clear hb)
            | (go_at_call 144; (with_reducible refine (N3.out _ _ HB2.out v3).mono ?_); rintro e w3 ⟨rfl, hb⟩; have hb3 := hb2.trans (hb.mono hb2.size); obtain ⟨s0, s1, s2, s3⟩ := HX.out w3 hb3; have HB3 := Lib.hid (HB2.out.trans (hb.mono HB2.out.size)); clear hb))
          go_ret
          exact ⟨by simp, HB3.out⟩
        · have HD : Hid ((dx == -1) = false) := Lib.hid (by simpa using hx)
          have hd2 := HD.out
          go_enter Tryz.func81, Tryz.ntmps81
          go_wp2_with (first
            | (go_at_call 51; (with_reducible refine N1.out.mono ?_); rintro e w1 ⟨rfl, hb⟩; have hb1 := hb; obtain ⟨z0, z1, z2, z3⟩ := HX.out w1 hb1; have HB1 := Lib.hid (HA.out.trans (hb.mono HA.out.size)); clear hb)
            | (go_at_call 143; (with_reducible refine (N2.out _ HB1.out).mono ?_); rintro e w2 ⟨rfl, hb⟩; have hb2 := hb1.trans (hb.mono hb1.size); obtain ⟨v0, v1, v2, v3⟩ := HX.out w2 hb2; have HB2 := Lib.hid (HB1.out.trans (hb.mono HB1.out.size)); clear hb)
            | (go_at_call 144; (with_reducible refine (N3.out _ _ HB2.out v3).mono ?_); rintro e w3 ⟨rfl, hb⟩; have hb3 := hb2.trans (hb.mono hb2.size); obtain ⟨s0, s1, s2, s3⟩ := HX.out w3 hb3; have HB3 := Lib.hid (HB2.out.trans (hb.mono HB2.out.size)); clear hb)
            | (go_at_call 72; (with_reducible refine (N4.out _ _ rfl).mono ?_); rintro e w4 ⟨rfl, hb⟩; have HB4 := Lib.hid (HB3.out.trans (hb.mono HB3.out.size)); clear hb))
          go_ret
          exact ⟨by simp [HD.out], HB4.out⟩
set_option maxHeartbeats 2000000 in
theorem distC_any (n : Nat) (hn : n ≤ 1000000000) {w : World} {Q : Nat → Prop} {d : DistD} {x : DLoc} (h : DistIn w Q d x) (B : Nat) (pm : Option Addr) (cm : Nat) (hc : w.cell? ⟨B, 1, none⟩ = some (.slice pm n cm)) :
    Calls Tryz.prog 80 #[distV d x, .pointer (some ⟨B, 0, none⟩)] w fun e w' => e = .returned (.bool (distR n d)) ∧ Below w.heap.size w w' := by
  have hA := (Below.refl w.heap.size w).alloc (Nat.le_refl _) (.cells #[.string d.n, .slice x.pr d.r.length x.cr, .int .i64 d.t, .slice x.pc d.cs.length x.cc, .int .i64 d.x] 66)
  have HN := Lib.hid (dist_any n hn (h.bel hA))
  have HA := Lib.hid hA
  have y0 := keepc hA hc
  clear hA h hc
  unfold distV DistD.cells at *
  generalize distR n d = q at *
  go_enter Tryz.func80, Tryz.ntmps80
  go_wp2_with (go_at_call 81; (with_reducible refine HN.out.mono ?_); rintro e w1 ⟨rfl, hb⟩; have HB := Lib.hid (HA.out.trans (hb.mono HA.out.size)); clear hb)
  go_ret
  exact ⟨rfl, HB.out⟩
end Go.Proofs.YtabdgnigmlpeaaaGreatDoor
/- The lists of a course, their numbers. -/
namespace Go.Proofs.YtabdgnigmlpeaaaGreatDoor
open Go.RowKit

theorem mats_all {w : World} {Q : Nat → Prop} {l : List MatD} {p : Option Addr} {cap : Nat} (h : FlatIn w Q 2 MatD.cells l p cap) :
    Calls Tryz.prog 75 #[.slice p l.length cap, .func (Fn.func 76) #[] #[]] w fun e w' => e = .returned (.bool (l.all (matR))) ∧ Below w.heap.size w w' := by
  obtain ⟨b, off, hL, hcell⟩ := h
  let z : MatD := ⟨⟨#[]⟩, 0⟩
  have hz : ∀ j (h : j < l.length), l.getD j z = l[j] := fun j h => by simp [List.getD, h]
  refine allB_mat (matR) 76 #[] (enters_of Tryz.func76 (by kernel_rfl) rfl) l (fun j => .string (l.getD j z).n) (fun j => .int .i64 (l.getD j z).k) p b off cap
    (fun hne => (hL.hb (by simpa using hne)).1) hL.hl w (fun hne => (hL.hb (by simpa using hne)).2.2) (fun j hj => ?_) (fun W2 j hj hW2 => ?_)
  · rw [hz j hj]
    exact ⟨hcell j hj 0 _ rfl, hcell j hj 1 _ rfl⟩
  · rw [hz j hj]
    exact mat_any l[j] W2
theorem waves_all {w : World} {Q : Nat → Prop} {l : List WaveD} {p : Option Addr} {cap : Nat} (h : FlatIn w Q 2 WaveD.cells l p cap) :
    Calls Tryz.prog 82 #[.slice p l.length cap, .func (Fn.func 83) #[] #[]] w fun e w' => e = .returned (.bool (l.all (waveR))) ∧ Below w.heap.size w w' := by
  obtain ⟨b, off, hL, hcell⟩ := h
  let z : WaveD := ⟨⟨#[]⟩, 0⟩
  have hz : ∀ j (h : j < l.length), l.getD j z = l[j] := fun j h => by simp [List.getD, h]
  refine allB_wave (waveR) 83 #[] (enters_of Tryz.func83 (by kernel_rfl) rfl) l (fun j => .string (l.getD j z).n) (fun j => .int .i64 (l.getD j z).g) p b off cap
    (fun hne => (hL.hb (by simpa using hne)).1) hL.hl w (fun hne => (hL.hb (by simpa using hne)).2.2) (fun j hj => ?_) (fun W2 j hj hW2 => ?_)
  · rw [hz j hj]
    exact ⟨hcell j hj 0 _ rfl, hcell j hj 1 _ rfl⟩
  · rw [hz j hj]
    exact wave_any l[j] W2
theorem cats_all {w : World} {Q : Nat → Prop} {l : List CatD} {p : Option Addr} {cap : Nat} (h : FlatIn w Q 3 CatD.cells l p cap) :
    Calls Tryz.prog 86 #[.slice p l.length cap, .func (Fn.func 87) #[] #[]] w fun e w' => e = .returned (.bool (l.all (catR))) ∧ Below w.heap.size w w' := by
  obtain ⟨b, off, hL, hcell⟩ := h
  let z : CatD := ⟨⟨#[]⟩, 0, 0⟩
  have hz : ∀ j (h : j < l.length), l.getD j z = l[j] := fun j h => by simp [List.getD, h]
  refine allB_cat (catR) 87 #[] (enters_of Tryz.func87 (by kernel_rfl) rfl) l (fun j => .string (l.getD j z).n) (fun j => .int .i64 (l.getD j z).f) (fun j => .int .i64 (l.getD j z).t) p b off cap
    (fun hne => (hL.hb (by simpa using hne)).1) hL.hl w (fun hne => (hL.hb (by simpa using hne)).2.2) (fun j hj => ?_) (fun W2 j hj hW2 => ?_)
  · rw [hz j hj]
    exact ⟨hcell j hj 0 _ rfl, hcell j hj 1 _ rfl, hcell j hj 2 _ rfl⟩
  · rw [hz j hj]
    exact cat_any l[j] W2
theorem offs_all {w : World} {Q : Nat → Prop} {l : List OffD} {p : Option Addr} {cap : Nat} (h : FlatIn w Q 4 OffD.cells l p cap) :
    Calls Tryz.prog 84 #[.slice p l.length cap, .func (Fn.func 85) #[] #[]] w fun e w' => e = .returned (.bool (l.all (offR))) ∧ Below w.heap.size w w' := by
  obtain ⟨b, off, hL, hcell⟩ := h
  let z : OffD := ⟨⟨#[]⟩, 0, 0, false⟩
  have hz : ∀ j (h : j < l.length), l.getD j z = l[j] := fun j h => by simp [List.getD, h]
  refine allB_off (offR) 85 #[] (enters_of Tryz.func85 (by kernel_rfl) rfl) l (fun j => .string (l.getD j z).n) (fun j => .int .i64 (l.getD j z).t) (fun j => .int .i64 (l.getD j z).l) (fun j => .bool (l.getD j z).o) p b off cap
    (fun hne => (hL.hb (by simpa using hne)).1) hL.hl w (fun hne => (hL.hb (by simpa using hne)).2.2) (fun j hj => ?_) (fun W2 j hj hW2 => ?_)
  · rw [hz j hj]
    exact ⟨hcell j hj 0 _ rfl, hcell j hj 1 _ rfl, hcell j hj 2 _ rfl, hcell j hj 3 _ rfl⟩
  · rw [hz j hj]
    exact off_any l[j] W2
theorem legs_all (n : Nat) (hn : n ≤ 1000000000) (B : Nat) (pm : Option Addr) (cm : Nat) {w : World} {Q : Nat → Prop} {l : List LegD} {p : Option Addr} {cap : Nat} (h : FlatIn w Q 4 LegD.cells l p cap) (hc : w.cell? ⟨B, 1, none⟩ = some (.slice pm n cm)) :
    Calls Tryz.prog 77 #[.slice p l.length cap, .func (Fn.func 71) #[] #[.pointer (some ⟨B, 0, none⟩)]] w fun e w' => e = .returned (.bool (l.all (legR n))) ∧ Below w.heap.size w w' := by
  obtain ⟨b, off, hL, hcell⟩ := h
  let z : LegD := ⟨0, 0, 0, 0⟩
  have hz : ∀ j (h : j < l.length), l.getD j z = l[j] := fun j h => by simp [List.getD, h]
  refine allB_leg (legR n) 71 #[.pointer (some ⟨B, 0, none⟩)] (enters_of Tryz.func71 (by kernel_rfl) rfl) l (fun j => .int .i64 (l.getD j z).f) (fun j => .int .i64 (l.getD j z).t) (fun j => .int .i64 (l.getD j z).mi) (fun j => .int .i64 (l.getD j z).ma) p b off cap
    (fun hne => (hL.hb (by simpa using hne)).1) hL.hl w (fun hne => (hL.hb (by simpa using hne)).2.2) (fun j hj => ?_) (fun W2 j hj hW2 => ?_)
  · rw [hz j hj]
    exact ⟨hcell j hj 0 _ rfl, hcell j hj 1 _ rfl, hcell j hj 2 _ rfl, hcell j hj 3 _ rfl⟩
  · rw [hz j hj]
    exact leg_any l[j] B n hn pm cm W2 (keepc hW2 hc)
theorem prizes_all (nd nc : Nat) (hnd : nd ≤ 1000000000) (hnc : nc ≤ 1000000000) (B : Nat) (pd pc : Option Addr) (cd cc : Nat) {w : World} {Q : Nat → Prop} {l : List PrizeD} {p : Option Addr} {cap : Nat} (h : FlatIn w Q 4 PrizeD.cells l p cap) (h3 : w.cell? ⟨B, 3, none⟩ = some (.slice pd nd cd)) (h6 : w.cell? ⟨B, 6, none⟩ = some (.slice pc nc cc)) :
    Calls Tryz.prog 88 #[.slice p l.length cap, .func (Fn.func 74) #[] #[.pointer (some ⟨B, 0, none⟩)]] w fun e w' => e = .returned (.bool (l.all (prizeR nd nc))) ∧ Below w.heap.size w w' := by
  obtain ⟨b, off, hL, hcell⟩ := h
  let z : PrizeD := ⟨0, 0, 0, 0⟩
  have hz : ∀ j (h : j < l.length), l.getD j z = l[j] := fun j h => by simp [List.getD, h]
  refine allB_prize (prizeR nd nc) 74 #[.pointer (some ⟨B, 0, none⟩)] (enters_of Tryz.func74 (by kernel_rfl) rfl) l (fun j => .int .i64 (l.getD j z).d) (fun j => .int .i64 (l.getD j z).c) (fun j => .int .i64 (l.getD j z).r) (fun j => .int .i64 (l.getD j z).a) p b off cap
    (fun hne => (hL.hb (by simpa using hne)).1) hL.hl w (fun hne => (hL.hb (by simpa using hne)).2.2) (fun j hj => ?_) (fun W2 j hj hW2 => ?_)
  · rw [hz j hj]
    exact ⟨hcell j hj 0 _ rfl, hcell j hj 1 _ rfl, hcell j hj 2 _ rfl, hcell j hj 3 _ rfl⟩
  · rw [hz j hj]
    exact prize_any l[j] B nd nc hnd hnc pd pc cd cc W2 (keepc hW2 h3) (keepc hW2 h6)
theorem dists_all (n : Nat) (hn : n ≤ 1000000000) (B : Nat) (pm : Option Addr) (cm : Nat) {w : World} {Q : Nat → Prop} {l : List DistD} {p : Option Addr} {cap : Nat} (h : DistsIn w Q l p cap) (hc : w.cell? ⟨B, 1, none⟩ = some (.slice pm n cm)) :
    Calls Tryz.prog 56 #[.slice p l.length cap, .func (Fn.func 80) #[] #[.pointer (some ⟨B, 0, none⟩)]] w fun e w' => e = .returned (.bool (l.all (distR n))) ∧ Below w.heap.size w w' := by
  obtain ⟨es, rfl, ⟨b, off, hL, hcell⟩, hd⟩ := h
  rw [List.length_map, List.all_map]
  let z : DistD × DLoc := ⟨⟨⟨#[]⟩, [], 0, [], 0⟩, ⟨none, 0, none, 0⟩⟩
  have hz : ∀ j (h : j < es.length), es.getD j z = es[j] := fun j h => by simp [List.getD, h]
  refine allB_dist (fun e => distR n e.1) 80 #[.pointer (some ⟨B, 0, none⟩)] (enters_of Tryz.func80 (by kernel_rfl) rfl) es (fun j => .string (es.getD j z).1.n) (fun j => .slice (es.getD j z).2.pr (es.getD j z).1.r.length (es.getD j z).2.cr) (fun j => .int .i64 (es.getD j z).1.t) (fun j => .slice (es.getD j z).2.pc (es.getD j z).1.cs.length (es.getD j z).2.cc) (fun j => .int .i64 (es.getD j z).1.x) p b off cap
    (fun hne => (hL.hb (by simpa using hne)).1) hL.hl w (fun hne => (hL.hb (by simpa using hne)).2.2) (fun j hj => ?_) (fun W j hj hW => ?_)
  · rw [hz j hj]
    exact ⟨hcell j hj 0 _ rfl, hcell j hj 1 _ rfl, hcell j hj 2 _ rfl, hcell j hj 3 _ rfl, hcell j hj 4 _ rfl⟩
  · rw [hz j hj]
    exact distC_any n hn ((hd j hj).bel hW) B pm cm (keepc hW hc)
end Go.Proofs.YtabdgnigmlpeaaaGreatDoor
/- The kinds of the mats of a route. -/
namespace Go.Proofs.YtabdgnigmlpeaaaGreatDoor
open Go.RowKit

def kindP (p last : Int) : Int := if p = 0 then 1 else if p = last then 3 else 2
set_option maxHeartbeats 1000000 in
theorem kindAt_any (p last : Int) (w : World) : Calls Tryz.prog 200 #[.int .i64 p, .int .i64 last] w fun e w' => e = .returned (.int .i64 (kindP p last)) ∧ w' = w := by
  unfold kindP
  by_cases h1 : p = 0
  · subst h1
    go_enter Tryz.func200, Tryz.ntmps200
    go_wp2_with fail
    go_ret
    exact ⟨by simp, rfl⟩
  · have k1 : (p == 0) = false := by simpa using h1
    by_cases h2 : p = last
    · subst h2
      rw [if_neg h1, if_pos rfl]
      go_enter Tryz.func200, Tryz.ntmps200
      go_wp2_with fail
      go_ret
      exact ⟨by simp, rfl⟩
    · have k2 : (p == last) = false := by simpa using h2
      rw [if_neg h1, if_neg h2]
      clear h1 h2
      go_enter Tryz.func200, Tryz.ntmps200
      go_wp2_with fail
      go_ret
      exact ⟨rfl, rfl⟩
def kindM (mats : List MatD) (r : Int) : Int := (mats.getD r.toNat ⟨⟨#[]⟩, 0⟩).k
/-- The mats from position j on have the kinds that they need. -/
def fitK (mats : List MatD) (last : Int) : Nat → List Int → Bool
  | _, [] => true
  | j, r :: l => (kindM mats r == kindP j last) && fitK mats last (j + 1) l
set_option maxHeartbeats 4000000 in
theorem kindsFit_any (route : List Int) (q : Option Addr) (k rc : Nat) (hq : route ≠ [] → q = some ⟨k, 0, none⟩) {Q : Nat → Prop} {mats : List MatD} {p : Option Addr} {cap : Nat} (w : World) (hr : ∀ i (h : i < route.length), w.cell? ⟨k, i, none⟩ = some (.int .i64 route[i])) (hl : route.length ≤ 1000000)
    (h : FlatIn w Q 2 MatD.cells mats p cap) (hin : ∀ r ∈ route, 0 ≤ r ∧ r < (mats.length : Int)) :
    Calls Tryz.prog 159 #[.slice q route.length rc, .slice p mats.length cap] w fun e w' => e = .returned (.bool (fitK mats ((route.length : Int) - 1) 0 route)) ∧ Below w.heap.size w w' := by
  have HB0 := Lib.hid (Below.refl w.heap.size w)
  obtain ⟨T, hT⟩ : ∃ T, fitK mats ((route.length : Int) - 1) 0 route = T := ⟨_, rfl⟩
  rw [hT]
  have H0 : Hid (fitK mats ((route.length : Int) - 1) 0 (route.drop 0) = T) := Lib.hid (by rw [List.drop_zero]; exact hT)
  obtain ⟨b, off, hL, hcell⟩ := h
  have HE : Hid (∀ w', Below w.heap.size w w' → ∀ j (h : j < route.length), q = some ⟨k, 0, none⟩ ∧ w'.cell? ⟨k, j, none⟩ = some (.int .i64 route[j]) ∧ p = some ⟨b, off, none⟩ ∧ ∃ m : Nat, route[j] = (m : Int) ∧ m < mats.length ∧ w'.cell? ⟨b, off + m * 2 + 1, none⟩ = some (.int .i64 (kindM mats route[j]))) := Lib.hid fun w' hb j hj => by
    obtain ⟨h0, h1⟩ := hin route[j] (List.getElem_mem hj)
    have hm : route[j].toNat < mats.length := by omega
    refine ⟨hq (by rintro rfl; simp at hj), keepc hb (hr j hj), (hL.hb (by omega)).1, route[j].toNat, by omega, hm, ?_⟩
    have := keepc hb (hcell route[j].toNat hm 1 _ rfl)
    rw [this]
    unfold kindM
    simp [List.getD, hm]
  have hn1 : IntKind.i64.wrap ((route.length : Int) - 1) = (route.length : Int) - 1 := IntWalk.i64_in _ (by omega)
  clear hT hq hr hL hcell hin
  go_enter Tryz.func159, Tryz.ntmps159
  go_wp2_with fail
  go_loopw [9] (fun i wr => ∃ j : Nat, j ≤ route.length ∧ i = .int .i64 j ∧ Hid (fitK mats ((route.length : Int) - 1) j (route.drop j) = T) ∧ Hid (Below w.heap.size w wr)) (fun i _ => route.length - (intOf i).toNat)
  case atStart => exact ⟨0, Nat.zero_le _, rfl, H0, HB0⟩
  case round =>
    obtain ⟨j, hj, rfl, HI, HB⟩ := hrel
    clear H0 HB0
    by_cases hlt : j < route.length
    · have hji : (j : Int) < (route.length : Int) := by omega
      obtain ⟨rfl, c1, rfl, m, hm, hml, c2⟩ := HE.out _ HB.out j hlt
      have hI := HI.out
      rw [(List.getElem_cons_drop hlt).symm, fitK] at hI
      have hmi : (m : Int) < (mats.length : Int) := by omega
      rw [hm] at c1 c2 hI
      clear HE HI
      generalize hkm : kindM mats (m : Int) = km at *
      clear hkm
      by_cases hk : km = kindP j ((route.length : Int) - 1)
      · have hb : (km == kindP j ((route.length : Int) - 1)) = true := by simpa using hk
        have HI2 : Hid (fitK mats ((route.length : Int) - 1) (j + 1) (route.drop (j + 1)) = T) := Lib.hid (by rw [← hI, hb, Bool.true_and])
        have hb2 : (km != kindP j ((route.length : Int) - 1)) = false := by simpa using hk
        clear hI hk hb hm
        go_wp2_with fail
        go_quiet ((go_at_call 200; exact Calls.quiet_of_same (kindAt_any _ _ _)))
        go_wp2_with fail
        go_round
        case rel => exact ⟨j + 1, by omega, by go_num, HI2, Lib.hid (bel_drewN HB.out _)⟩
        case measure => simp [intOf]; omega
      · have hb : (km == kindP j ((route.length : Int) - 1)) = false := by simpa using hk
        have hT : T = false := by rw [← hI, hb, Bool.false_and]
        subst hT
        have hb2 : (km != kindP j ((route.length : Int) - 1)) = true := by simpa using hk
        clear hI hk hb hm
        go_wp2_with fail
        go_quiet ((go_at_call 200; exact Calls.quiet_of_same (kindAt_any _ _ _)))
        go_wp2_with fail
        go_ret
        exact ⟨rfl, bel_drewN HB.out _⟩
    · have hji : ¬ (j : Int) < (route.length : Int) := by omega
      have hT : T = true := by
        have := HI.out
        rw [List.drop_of_length_le (by omega), fitK] at this
        exact this.symm
      subst hT
      clear HE HI
      go_wp2_with fail
      go_ret
      exact ⟨rfl, HB.out⟩
end Go.Proofs.YtabdgnigmlpeaaaGreatDoor
