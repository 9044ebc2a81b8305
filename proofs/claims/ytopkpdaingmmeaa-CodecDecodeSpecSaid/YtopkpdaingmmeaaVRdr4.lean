/- The specification's reader: no value. -/
import Derived.Test.YtopkpdaingmmeaaVRdr3
namespace Go.Proofs.Ytopkpdaingmmeaa
open Go.RowKit

set_option maxHeartbeats 4000000 in
set_option maxRecDepth 100000 in
theorem refValue_bad (d dd : Nat) (w : World) (lo rb : Nat) (p : Option Addr) (cap : Nat) (bs : List UInt8) (at' : Nat) (h : Rdr w lo rb p cap bs at' false)
    (hno : rdV d (bs.drop at') = none) (c : Nat) (at2 : Nat) (bad : Bool) (hc1 : ¬ c = 1) (hc2 : ¬ c = 2) (hc3 : ¬ c = 3)
    (hn : ∀ o, Calls Try.prog 53 #[.pointer (some ⟨rb, 0, none⟩)] (w.alloc o) fun e w' => e = .returned (.int .u8 c) ∧ Rdr w' lo rb p cap bs at2 bad ∧ Kept (w.alloc o) w' rb none) :
    Calls Try.prog 36 #[.pointer (some ⟨rb, 0, none⟩), .int .i64 dd] w (RVal w lo rb p cap bs (rdV d (bs.drop at'))) := by
  have HN := Lib.hid hn
  have HNO := Lib.hid hno
  have hrb := h.lt
  have g1 : ¬ (c : Int) = 1 := by omega
  have g2 : ¬ (c : Int) = 2 := by omega
  have g3 : ¬ (c : Int) = 3 := by omega
  clear h hn hno hc1 hc2 hc3
  go_enter Try.func36, Try.ntmps36
  go_wp2_with fail
  go_at_call 53
  refine (HN.out _).mono ?_
  rintro e w1 ⟨rfl, hr1, hk1⟩
  have HF := Lib.hid hr1.failed
  have q2 := hr1.c2
  have q3 := hr1.f2
  have HK2 := Lib.hid (((Kept.alloc w rb none zbox).trans hk1 (.inl rfl)).trans HF.out.2 (.inl rfl))
  have HZ2 := Lib.hid (((Zb.new w).kept hk1 (Nat.ne_of_gt hrb)).kept HF.out.2 (Nat.ne_of_gt hrb))
  have hbz := ((Zb.new w).kept hk1 (Nat.ne_of_gt hrb)).2.2
  obtain ⟨⟨a0, a1, a2, a3⟩, ⟨f0, f1, f2, f3⟩, _⟩ := (Zb.new w).kept hk1 (Nat.ne_of_gt hrb)
  have hne : ¬ w.heap.size = rb := Nat.ne_of_gt hrb
  have hne2 : ¬ rb = w.heap.size := fun e => hne e.symm
  clear hr1 hk1 HN
  go_wp2_with fail
  all_goals
    have HC4 := wr4_cells HZ2.out (.int .i64 0) (.int .i64 0) (.string ⟨#[]⟩) (.slice none 0 0)
    have HK4 := wr4_kept (.int .i64 0) (.int .i64 0) (.string ⟨#[]⟩) (.slice none 0 0) HK2.out (Nat.le_refl _)
    have HR4 := wr4_rdr (b := w.heap.size) (.int .i64 0) (.int .i64 0) (.string ⟨#[]⟩) (.slice none 0 0) HF.out.1 hrb
    obtain ⟨z0, z1, z2, z3⟩ := HC4
    unfold wr4 at *
    refine bodyPost_ret (v := .agg #[.int .i64 0, .int .i64 0, .string ⟨#[]⟩, .slice none 0 0]) ?_ rfl ?_
    · simp [results, Try.results36, go_sem, z0, z1, z2, z3]
    · refine ⟨HK4, .mk 0 0 ⟨#[]⟩ [], none, 0, rfl, VIn.leaf (by unfold Fit64; omega) (by unfold Fit64; omega) (by decide), ?_⟩
      rw [HNO.out]
      exact ⟨at2, HR4⟩

theorem refValue_end (d dd : Nat) (w : World) (lo rb : Nat) (p : Option Addr) (cap : Nat) (bs : List UInt8) (at' : Nat) (h : Rdr w lo rb p cap bs at' false) (hle : bs.length ≤ at') :
    Calls Try.prog 36 #[.pointer (some ⟨rb, 0, none⟩), .int .i64 dd] w (RVal w lo rb p cap bs (rdV d (bs.drop at'))) :=
  refValue_bad d dd w lo rb p cap bs at' h (by rw [List.drop_eq_nil_of_le hle, rdV.eq_def]) 0 at' true (by decide) (by decide) (by decide) fun o =>
    next_no (w.alloc o) lo rb p cap bs at' false (h.bel ((Below.refl w.heap.size w).alloc (Nat.le_refl _) o) (Nat.le_refl _)) hle

theorem refValue_other (d dd : Nat) (w : World) (lo rb : Nat) (p : Option Addr) (cap : Nat) (bs : List UInt8) (at' : Nat) (h : Rdr w lo rb p cap bs at' false) (hlt : at' < bs.length)
    (h1 : ¬ bs[at'].toNat = 1) (h2 : ¬ bs[at'].toNat = 2) (h3 : ¬ bs[at'].toNat = 3) :
    Calls Try.prog 36 #[.pointer (some ⟨rb, 0, none⟩), .int .i64 dd] w (RVal w lo rb p cap bs (rdV d (bs.drop at'))) :=
  refValue_bad d dd w lo rb p cap bs at' h (by rw [List.drop_eq_getElem_cons hlt, rdV.eq_def]; dsimp only; rw [if_neg h1, if_neg h2, if_neg h3]) _ (at' + 1) false h1 h2 h3 fun o =>
    next_yes (w.alloc o) lo rb p cap bs at' false (h.bel ((Below.refl w.heap.size w).alloc (Nat.le_refl _) o) (Nat.le_refl _)) hlt
end Go.Proofs.Ytopkpdaingmmeaa
