/- A map from numbers to bools that the call makes: the look-up. -/
import Derived.Test.YtlcmedimgoaneaaGreatDoorKAlike
import Derived.Maps.OwnSet
namespace Go.Proofs.YtlcmedimgoaneaaGreatDoor
open Go.RowKit Go.Maps

set_option maxRecDepth 100000 in
theorem lawK : Keyed Tryz.prog 3 := int_keyed Tryz.underlying3
set_option maxRecDepth 100000 in
theorem zeroB (w : World) : (zeroValue 4).run Tryz.prog w = .ok (.bool false) w := by kernel_rfl
set_option maxRecDepth 100000 in
theorem plainB (x : Bool) : plainElem (H := Unit) Tryz.prog 4 (.bool x) = some (.lit (.bool x), []) := plainElem_bool Tryz.underlying4 x
set_option maxRecDepth 100000 in
theorem plainB_inv {v : Value} {z : DataW Unit × List MemPlace} (h : plainElem Tryz.prog 4 v = some z) : ∃ x, v = .bool x ∧ z = (.lit (.bool x), []) := by
  unfold plainElem at h
  rw [Tryz.underlying4] at h
  cases v <;> simp at h
  exact ⟨_, rfl, h.symm⟩
set_option maxRecDepth 100000 in
/-- A key that is not there. -/
theorem look_no {w : World} {b n : Nat} {D : DataW Unit} (h : w.ownsMap Tryz.prog 3 (plainElem Tryz.prog 4) b n D) (k : Int) (wf : (Lit.int .i64 k).wf = true) (hk : D.atKey (.int .i64 k) (.lit (.bool false)) = .lit (.bool false)) :
    (Instr.lookup 39 (.map (some b)) (.int .i64 k) false).run Tryz.prog w = .ok (.bool false) w := by
  obtain ⟨v, ps, hrun, hv⟩ := h.lookup lawK Tryz.underlying39 (zeroB w) (plainB false) (keyOf_int_mk Tryz.underlying3 wf)
  obtain ⟨x, rfl, hx⟩ := plainB_inv hv
  rw [hk] at hx
  simp only [Prod.mk.injEq, DataW.lit.injEq, Lit.bool.injEq] at hx
  rw [hrun, ← hx.1]
/-- What the map holds at keys that were not put in. -/
def Lacks (D : DataW Unit) (B : List Nat) : Prop := ∀ z ∈ B, D.atKey (.int .i64 (z : Int)) (.lit (.bool false)) = .lit (.bool false)
set_option maxRecDepth 100000 in
theorem Lacks.start (B : List Nat) : Lacks (.map []) B := fun z _ => rfl
set_option maxRecDepth 100000 in
theorem Lacks.put {D : DataW Unit} {B : List Nat} (h : Lacks D B) (k : Int) (hk : ∀ z ∈ B, (z : Int) ≠ k) (d : DataW Unit) : Lacks (D.put (.int .i64 k) d) B := fun z hz => by
  rw [atKey_put_other (by
    intro e
    exact hk z hz (by simpa using e))]
  exact h z hz
end Go.Proofs.YtlcmedimgoaneaaGreatDoor
