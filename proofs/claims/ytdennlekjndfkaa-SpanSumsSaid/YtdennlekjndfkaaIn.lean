/- In. -/
import Derived.Test.YtdennlekjndfkaaSort
import Derived.Test.YtdennlekjndfkaaRefA
namespace Go.Proofs.Ytdennlekjndfkaa
open Go.RowKit Go.Sort Go.Lib Go.Shelf

def inB (t : Int) (s : Sp) : Bool := decide (s.1 ≤ t) && decide (t ≤ s.2)
set_option maxHeartbeats 400000 in
theorem in1_pred (t : Int) (B : Nat) (w : World) (hB : B < w.heap.size) (hcell : w.cell? ⟨B, 0, none⟩ = some (.int .i64 t)) :
    PredBelow Try.prog 45 #[.pointer (some ⟨B, 0, none⟩)] (fun x => .agg (encSp x).toArray) (inB t) w := fun W x hb => by
  have hc : W.cell? ⟨B, 0, none⟩ = some (.int .i64 t) := (hb.cell (p := ⟨B, 0, none⟩) hB).trans hcell
  have hBW : B < W.heap.size := Nat.lt_of_lt_of_le hB hb.size
  have hne : B ≠ W.heap.size := by omega
  show Calls Try.prog 45 #[.agg #[.int .i64 x.1, .int .i64 x.2], .pointer (some ⟨B, 0, none⟩)] W _
  obtain ⟨x1, x2⟩ := x
  by_cases g1 : x1 ≤ t
  · by_cases g2 : t ≤ x2
    · have E : inB t (x1, x2) = true := by simp [inB, g1, g2]
      rw [E]; clear E
      go_enter Try.func45, Try.ntmps45
      go_wp2
      go_ret
      exact ⟨rfl, hb.alloc hb.size _⟩
    · have E : inB t (x1, x2) = false := by simp [inB, g2]
      rw [E]; clear E
      go_enter Try.func45, Try.ntmps45
      go_wp2
      go_ret
      exact ⟨rfl, hb.alloc hb.size _⟩
  · have E : inB t (x1, x2) = false := by simp [inB, g1]
    rw [E]; clear E
    go_enter Try.func45, Try.ntmps45
    go_wp2
    go_ret
    exact ⟨rfl, hb.alloc hb.size _⟩

set_option maxHeartbeats 400000 in
theorem index_empty (p : Option Addr) (cap : Nat) (fv : Value) (w : World) : Calls Try.prog 54 #[.slice p 0 cap, fv] w fun e w' => e = .returned (.int .i64 (-1)) ∧ w' = w := by
  go_enter Try.func54, Try.ntmps54
  go_wp2
  go_rounds 1
  go_ret
  exact ⟨rfl, rfl⟩
set_option maxHeartbeats 400000 in
theorem contains_empty (p : Option Addr) (cap : Nat) (fv : Value) (w : World) : Calls Try.prog 44 #[.slice p 0 cap, fv] w fun e w' => e = .returned (.bool false) ∧ w' = w := by
  go_enter Try.func44, Try.ntmps44
  go_wp2_with (go_at_call 54; refine (index_empty p cap fv _).mono ?_; rintro e w' ⟨rfl, rfl⟩)
  go_ret
  exact ⟨rfl, rfl⟩

set_option maxHeartbeats 1000000 in
theorem in_any (p : Option Addr) (cap : Nat) (l : List Sp) (t : Int) (w : World) (B : Nat) (hl : SpAt w B p l) :
    Calls Try.prog 21 #[.slice p l.length cap, .int .i64 t] w fun e w' => e = .returned (.bool (inS l t)) ∧ Below w.heap.size w w' := by
  by_cases hne : l = []
  · subst hne
    go_enter Try.func21, Try.ntmps21
    go_wp2_with (go_at_call 44; refine (contains_empty p cap _ _).mono ?_; rintro e w' ⟨rfl, rfl⟩)
    go_ret
    exact ⟨rfl, (Below.refl _ w).alloc (Nat.le_refl _) _⟩
  · obtain ⟨b, off, rfl, _, hbs, hc⟩ := hl.at' hne
    have hlen := hl.len
    have eg : ∀ args w, (callFunc 45 args).run Try.prog w = .ok (.enter 45 args) w := enters_of Try.func45 (by kernel_rfl) rfl
    have hcon := AnyQ.slices_ContainsFunc Try.containsSp 2 Try.isAgg23 Try.sizeOf23 encSp (fun _ => rfl) (inB t) 45 #[.pointer (some ⟨w.heap.size, 0, none⟩)] eg b off l.length cap l (w.alloc (.cells #[.int .i64 t] 3))
      (in1_pred t w.heap.size _ (by simp) (by simp)) (Nat.le_refl _) (by omega) (by simp; omega) (fun j hj i v hi => by
        refine Lib.cell?_alloc_some _ ?_
        have h1 := hc j hj
        rw [getElem!_pos l j hj] at hi
        generalize l[j] = y at hi h1
        match i, hi with
        | 0, hi => simp [encSp] at hi; rw [← hi]; exact h1.1
        | 1, hi => simp [encSp] at hi; rw [← hi]; exact h1.2
        | i + 2, hi => simp [encSp] at hi)
    change Calls Try.prog 44 _ _ _ at hcon
    rw [List.take_of_length_le (Nat.le_refl _), show l.any (inB t) = inS l t from rfl] at hcon
    have HC := Lib.hid hcon
    clear hcon hc hl
    generalize inS l t = r at *
    go_enter Try.func21, Try.ntmps21
    go_wp2_with (go_at_call 44; refine HC.out.mono ?_; rintro e w' ⟨rfl, hb'⟩)
    go_ret
    exact ⟨rfl, ((Below.refl _ w).alloc (Nat.le_refl _) _).trans (hb'.mono (by simp))⟩
end Go.Proofs.Ytdennlekjndfkaa
