/- The specification's reader: a value. -/
import Derived.Test.YtopkpdaingmmeaaVRdr2
import Derived.Test.YtopkpdaingmmeaaVRow
namespace Go.Proofs.Ytopkpdaingmmeaa
open Go.RowKit

/-- What the reading of a value comes to. -/
def RVal (w : World) (lo rb : Nat) (p : Option Addr) (cap : Nat) (bs : List UInt8) (o : Option (V × List UInt8)) (e : Ending) (w' : World) : Prop :=
  Kept w w' rb none ∧ ∃ v q c, e = .returned (vV v q c) ∧ VIn w' (w.heap.size ≤ ·) v q c ∧ match o with
    | none => ∃ at', Rdr w' lo rb p cap bs at' true
    | some (u, r) => v = u ∧ ∃ at', bs.drop at' = r ∧ Rdr w' lo rb p cap bs at' false

theorem Kept.alloc (w : World) (ob : Nat) (r : Option Nat) (o : Obj) : Kept w (w.alloc o) ob r := by
  have hb := (Below.refl w.heap.size w).alloc (Nat.le_refl _) o
  exact ⟨hb.os, hb.tape, hb.output, hb.size, fun k hk _ _ => hb.block k hk⟩
/-- The cell of the result. -/
def Zb (w : World) (b : Nat) : Prop := (w.cell? ⟨b, 0, none⟩ = some (.int .i64 0) ∧ w.cell? ⟨b, 1, none⟩ = some (.int .i64 0) ∧ w.cell? ⟨b, 2, none⟩ = some (.string ⟨#[]⟩) ∧ w.cell? ⟨b, 3, none⟩ = some (.slice none 0 0)) ∧
  (w.frozen? ⟨b, 0, none⟩ = false ∧ w.frozen? ⟨b, 1, none⟩ = false ∧ w.frozen? ⟨b, 2, none⟩ = false ∧ w.frozen? ⟨b, 3, none⟩ = false) ∧ b < w.heap.size
abbrev zbox : Obj := .cells #[.int .i64 0, .int .i64 0, .string ⟨#[]⟩, .slice none 0 0] 24
theorem Zb.new (w : World) : Zb (w.alloc zbox) w.heap.size := by
  refine ⟨⟨?_, ?_, ?_, ?_⟩, ⟨?_, ?_, ?_, ?_⟩, by simp⟩ <;> simp [go_sem]
theorem Zb.kept {w w' : World} {b rb : Nat} (h : Zb w b) (hk : Kept w w' rb none) (hne : b ≠ rb) : Zb w' b := by
  obtain ⟨⟨a0, a1, a2, a3⟩, ⟨f0, f1, f2, f3⟩, hb⟩ := h
  have hc := fun o => World.cell?_of_block (a := ⟨b, o, none⟩) (hk.block b hb hne (by simp))
  have hf := fun o => World.frozen?_of_block (a := ⟨b, o, none⟩) (hk.block b hb hne (by simp))
  exact ⟨⟨(hc 0).trans a0, (hc 1).trans a1, (hc 2).trans a2, (hc 3).trans a3⟩, ⟨(hf 0).trans f0, (hf 1).trans f1, (hf 2).trans f2, (hf 3).trans f3⟩, Nat.lt_of_lt_of_le hb hk.size⟩
/-- The result is written. -/
def wr4 (w : World) (b : Nat) (v0 v1 v2 v3 : Value) : World := (((w.setCell ⟨b, 0, none⟩ v0).setCell ⟨b, 1, none⟩ v1).setCell ⟨b, 2, none⟩ v2).setCell ⟨b, 3, none⟩ v3
theorem wr4_block {w : World} {b : Nat} (v0 v1 v2 v3 : Value) (k : Nat) (h : k ≠ b) : (wr4 w b v0 v1 v2 v3).heap[k]? = w.heap[k]? := by
  unfold wr4
  rw [heap_setCell_other _ _ _ _ (by exact h), heap_setCell_other _ _ _ _ (by exact h), heap_setCell_other _ _ _ _ (by exact h), heap_setCell_other _ _ _ _ (by exact h)]
theorem wr4_size {w : World} {b : Nat} (v0 v1 v2 v3 : Value) : (wr4 w b v0 v1 v2 v3).heap.size = w.heap.size := by simp [wr4]
theorem wr4_kept {w w2 : World} {b rb : Nat} (v0 v1 v2 v3 : Value) (h : Kept w w2 rb none) (hb : w.heap.size ≤ b) : Kept w (wr4 w2 b v0 v1 v2 v3) rb none :=
  ⟨h.os, h.tape, h.output, by rw [wr4_size]; exact h.size, fun k hk h1 h2 => by rw [wr4_block _ _ _ _ k (by omega)]; exact h.block k hk h1 h2⟩
theorem wr4_rdr {w : World} {b lo rb : Nat} {p : Option Addr} {cap : Nat} {bs : List UInt8} {at' : Nat} {bad : Bool} (v0 v1 v2 v3 : Value) (h : Rdr w lo rb p cap bs at' bad) (hb : rb < b) : Rdr (wr4 w b v0 v1 v2 v3) lo rb p cap bs at' bad := by
  obtain ⟨h1, h2, h3, h4, h5, h6, h7, h8, h9, h10, h11⟩ := h
  have hc := fun o => World.cell?_of_block (a := ⟨rb, o, none⟩) (wr4_block (w := w) (b := b) v0 v1 v2 v3 rb (by omega))
  have hf := fun o => World.frozen?_of_block (a := ⟨rb, o, none⟩) (wr4_block (w := w) (b := b) v0 v1 v2 v3 rb (by omega))
  exact ⟨h1, by rw [wr4_size]; exact h2, (hc 0).trans h3, (hc 1).trans h4, (hc 2).trans h5, (hf 1).trans h6, (hf 2).trans h7, h8, h9, h10, h11.keep fun k hk => wr4_block _ _ _ _ k (by omega)⟩
theorem wr4_cells {w : World} {b : Nat} (h : Zb w b) (v0 v1 v2 v3 : Value) : (wr4 w b v0 v1 v2 v3).cell? ⟨b, 0, none⟩ = some v0 ∧ (wr4 w b v0 v1 v2 v3).cell? ⟨b, 1, none⟩ = some v1 ∧ (wr4 w b v0 v1 v2 v3).cell? ⟨b, 2, none⟩ = some v2 ∧ (wr4 w b v0 v1 v2 v3).cell? ⟨b, 3, none⟩ = some v3 := by
  obtain ⟨⟨a0, a1, a2, a3⟩, _, _⟩ := h
  unfold wr4
  simp [go_sem, a0, a1, a2, a3]
theorem sgn_fit (u : Nat) (h : u < 18446744073709551616) : Fit64 (sgn u) := by
  unfold sgn Fit64
  split <;> omega

set_option maxHeartbeats 4000000 in
set_option maxRecDepth 100000 in
theorem refValue_int (d dd : Nat) (w : World) (lo rb : Nat) (p : Option Addr) (cap : Nat) (bs : List UInt8) (at' : Nat) (h : Rdr w lo rb p cap bs at' false) (hlt : at' < bs.length) (h1 : bs[at'].toNat = 1) :
    Calls Try.prog 36 #[.pointer (some ⟨rb, 0, none⟩), .int .i64 dd] w (RVal w lo rb p cap bs (rdV d (bs.drop at'))) := by
  have HRD : Hid (rdV d (bs.drop at') = match rdNum 0 0 (bs.drop (at' + 1)) with | none => none | some (u, r') => some (.mk 1 (sgn u) ⟨#[]⟩ [], r')) := Lib.hid (by rw [List.drop_eq_getElem_cons hlt, rdV.eq_def]; dsimp only; rw [if_pos h1]; rfl)
  have HN : Hid (∀ o, Calls Try.prog 53 #[.pointer (some ⟨rb, 0, none⟩)] (w.alloc o) fun e w' => e = .returned (.int .u8 1) ∧ Rdr w' lo rb p cap bs (at' + 1) false ∧ Kept (w.alloc o) w' rb none) := Lib.hid fun o => by
    have := next_yes (w.alloc o) lo rb p cap bs at' false (h.bel ((Below.refl w.heap.size w).alloc (Nat.le_refl _) o) (Nat.le_refl _)) hlt
    rw [h1] at this
    exact this
  have hrb := h.lt
  clear h h1
  go_enter Try.func36, Try.ntmps36
  go_wp2_with fail
  go_at_call 53
  refine (HN.out _).mono ?_
  rintro e w1 ⟨rfl, hr1, hk1⟩
  have HC := Lib.hid (refNumber_any w1 lo rb p cap bs (at' + 1) hr1)
  have HK1 := Lib.hid ((Kept.alloc w rb none zbox).trans hk1 (.inl rfl))
  have HZ1 := Lib.hid ((Zb.new w).kept hk1 (Nat.ne_of_gt hrb))
  clear hr1 hk1 HN
  generalize rdNum 0 0 (bs.drop (at' + 1)) = o at *
  go_wp2_with fail
  go_at_call 54
  refine HC.out.mono ?_
  rintro e w2 ⟨hk2, he⟩
  have HK2 := Lib.hid (HK1.out.trans hk2 (.inl rfl))
  have HZ2 := Lib.hid (HZ1.out.kept hk2 (Nat.ne_of_gt hrb))
  obtain ⟨⟨a0, a1, a2, a3⟩, ⟨f0, f1, f2, f3⟩, hbz⟩ := HZ2.out
  clear hk2 HC HK1
  cases o with
  | none =>
    obtain ⟨rfl, at2, hr2⟩ := he
    have HR2 := Lib.hid hr2; clear hr2
    go_wp2_with fail
    have HC4 := wr4_cells HZ2.out (.int .i64 1) (.int .i64 0) (.string ⟨#[]⟩) (.slice none 0 0)
    have HK4 := wr4_kept (.int .i64 1) (.int .i64 0) (.string ⟨#[]⟩) (.slice none 0 0) HK2.out (Nat.le_refl _)
    have HR4 := wr4_rdr (b := w.heap.size) (.int .i64 1) (.int .i64 0) (.string ⟨#[]⟩) (.slice none 0 0) HR2.out hrb
    obtain ⟨z0, z1, z2, z3⟩ := HC4
    unfold wr4 at *
    refine bodyPost_ret (v := .agg #[(.int .i64 1), (.int .i64 0), (.string ⟨#[]⟩), (.slice none 0 0)]) ?_ rfl ?_
    · simp [results, Try.results36, go_sem, z0, z1, z2, z3]
    · refine ⟨HK4, .mk 1 0 ⟨#[]⟩ [], none, 0, rfl, VIn.leaf (by unfold Fit64; omega) (by unfold Fit64; omega) (by decide), ?_⟩
      rw [HRD.out]
      exact ⟨at2, HR4⟩
  | some q =>
    obtain ⟨u, r⟩ := q
    obtain ⟨rfl, hu, at2, hr, hr2⟩ := he
    have HR2 := Lib.hid hr2; clear hr2
    by_cases hodd : u % 2 = 1
    · have g1 : (u : Int) % 2 = 1 := by omega
      have hsg : sgn u = -((u : Int) / 2) - 1 := by unfold sgn; rw [if_pos hodd]; omega
      go_wp2_with fail
      have HC4 := wr4_cells HZ2.out (.int .i64 1) (.int .i64 (-((u : Int) / 2) - 1)) (.string ⟨#[]⟩) (.slice none 0 0)
      have HK4 := wr4_kept (.int .i64 1) (.int .i64 (-((u : Int) / 2) - 1)) (.string ⟨#[]⟩) (.slice none 0 0) HK2.out (Nat.le_refl _)
      have HR4 := wr4_rdr (b := w.heap.size) (.int .i64 1) (.int .i64 (-((u : Int) / 2) - 1)) (.string ⟨#[]⟩) (.slice none 0 0) HR2.out hrb
      obtain ⟨z0, z1, z2, z3⟩ := HC4
      unfold wr4 at *
      refine bodyPost_ret (v := .agg #[(.int .i64 1), (.int .i64 (-((u : Int) / 2) - 1)), (.string ⟨#[]⟩), (.slice none 0 0)]) ?_ rfl ?_
      · simp [results, Try.results36, go_sem, z0, z1, z2, z3]
      · refine ⟨HK4, .mk 1 (-((u : Int) / 2) - 1) ⟨#[]⟩ [], none, 0, rfl, VIn.leaf (by unfold Fit64; omega) (hsg ▸ sgn_fit u hu) (by decide), ?_⟩
        rw [HRD.out]
        exact ⟨by rw [hsg], at2, hr, HR4⟩
    · have g1 : ¬ (u : Int) % 2 = 1 := by omega
      have hsg : sgn u = (u : Int) / 2 := by unfold sgn; rw [if_neg hodd]; omega
      go_wp2_with fail
      have HC4 := wr4_cells HZ2.out (.int .i64 1) (.int .i64 ((u : Int) / 2)) (.string ⟨#[]⟩) (.slice none 0 0)
      have HK4 := wr4_kept (.int .i64 1) (.int .i64 ((u : Int) / 2)) (.string ⟨#[]⟩) (.slice none 0 0) HK2.out (Nat.le_refl _)
      have HR4 := wr4_rdr (b := w.heap.size) (.int .i64 1) (.int .i64 ((u : Int) / 2)) (.string ⟨#[]⟩) (.slice none 0 0) HR2.out hrb
      obtain ⟨z0, z1, z2, z3⟩ := HC4
      unfold wr4 at *
      refine bodyPost_ret (v := .agg #[(.int .i64 1), (.int .i64 ((u : Int) / 2)), (.string ⟨#[]⟩), (.slice none 0 0)]) ?_ rfl ?_
      · simp [results, Try.results36, go_sem, z0, z1, z2, z3]
      · refine ⟨HK4, .mk 1 ((u : Int) / 2) ⟨#[]⟩ [], none, 0, rfl, VIn.leaf (by unfold Fit64; omega) (hsg ▸ sgn_fit u hu) (by decide), ?_⟩
        rw [HRD.out]
        exact ⟨by rw [hsg], at2, hr, HR4⟩
end Go.Proofs.Ytopkpdaingmmeaa
