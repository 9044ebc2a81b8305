/- The program's signs. -/
import Derived.Test.YtdhdjfkknfbmhaaGreatDoorKScan
namespace Go.Proofs.YtdhdjfkknfbmhaaGreatDoor
open Go.RowKit

def sgnV : Value := .agg (signs.map fun s => Value.string (S s)).toArray
theorem find_take {α : Type} {p : α → Bool} {l : List α} {j : Nat} (h : ∀ i (hi : i < l.length), i < j → p l[i] = false) (hj : j < l.length) (hp : p l[j] = true) : l.find? p = some l[j] := by
  rw [List.find?_eq_some_iff_getElem]
  exact ⟨hp, j, hj, rfl, fun i hi => by rw [h i (by omega) hi]; rfl⟩

set_option maxRecDepth 100000 in
theorem firstSign_any (r : Bs) (_ : r.length ≤ 100000) (w : World) (hG : Gl w) :
    Calls Tryz.prog 112 #[.string (S r)] w fun e w' => e = .returned (.string (S (sgn r))) ∧ Below w.heap.size w w' := by
  have HG := Lib.hid hG
  have c0 := hG.sgn 0 (by decide)
  have c1 := hG.sgn 1 (by decide)
  have c2 := hG.sgn 2 (by decide)
  have c3 := hG.sgn 3 (by decide)
  have c4 := hG.sgn 4 (by decide)
  have c5 := hG.sgn 5 (by decide)
  have c6 := hG.sgn 6 (by decide)
  have c7 := hG.sgn 7 (by decide)
  have c8 := hG.sgn 8 (by decide)
  have c9 := hG.sgn 9 (by decide)
  have c10 := hG.sgn 10 (by decide)
  have c11 := hG.sgn 11 (by decide)
  have c12 := hG.sgn 12 (by decide)
  have c13 := hG.sgn 13 (by decide)
  clear hG
  go_enter Tryz.func112, Tryz.ntmps112
  go_wp2_with fail
  clear c0 c1 c2 c3 c4 c5 c6 c7 c8 c9 c10 c11 c12 c13
  generalize hAe : (#[Value.string (S signs[0]), Value.string (S signs[1]), Value.string (S signs[2]), Value.string (S signs[3]), Value.string (S signs[4]), Value.string (S signs[5]), Value.string (S signs[6]), Value.string (S signs[7]), Value.string (S signs[8]), Value.string (S signs[9]), Value.string (S signs[10]), Value.string (S signs[11]), Value.string (S signs[12]), Value.string (S signs[13])] : Array Value) = A at *
  have hA : ∀ (j : Nat) (h : j < signs.length), A[j]? = some (.string (S signs[j])) := by
    intro j h
    subst hAe
    match j, h with
    | 0, _ => rfl
    | 1, _ => rfl
    | 2, _ => rfl
    | 3, _ => rfl
    | 4, _ => rfl
    | 5, _ => rfl
    | 6, _ => rfl
    | 7, _ => rfl
    | 8, _ => rfl
    | 9, _ => rfl
    | 10, _ => rfl
    | 11, _ => rfl
    | 12, _ => rfl
    | 13, _ => rfl
  have hsize : A.size = 14 := by subst hAe; rfl
  clear hAe
  have HA : Hid (∀ (j : Nat) (h : j < signs.length) (w : World), (Instr.index 214 (.agg A) (.int .i64 j)).run Tryz.prog w = .ok (.string (S signs[j])) w) := Lib.hid (by
    intro j h w
    have h1 := hA j h
    have h14 : (j : Int) < 14 := by have : j < 14 := h; omega
    simp [Instr.index, run_underlying Tryz.underlying214, asIntOf, h1, go_sem]
    intro h2
    have : j < 14 := h
    omega)
  clear hA hsize
  go_loopw [6] (fun i wr => ∃ j : Nat, j ≤ 14 ∧ i = .int .i64 j ∧ Hid (∀ k (hk : k < signs.length), k < j → (signs[k]).isPrefixOf r = false) ∧ wr = w) (fun i _ => 14 - (intOf i).toNat)
  case atStart => exact ⟨0, Nat.zero_le _, rfl, Lib.hid (by intro k _ h; omega), rfl⟩
  case round =>
    obtain ⟨j, hj, rfl, HT, rfl⟩ := hrel
    by_cases hlt : j < 14
    · have hjl : j < signs.length := hlt
      have ha := HA.out j hjl wr
      have HC := Lib.hid (hasPrefix_any r signs[j] wr)
      have HF := Lib.hid (find_take (p := fun s => s.isPrefixOf r) HT.out hjl)
      have HS : Hid (∀ k (hk : k < signs.length), k < j + 1 → (signs[j]).isPrefixOf r = false → (signs[k]).isPrefixOf r = false) := Lib.hid fun k hk h1 h2 => by
        by_cases h3 : k < j
        · exact HT.out k hk h3
        · have : k = j := by omega
          subst this; exact h2
      change Hid (Calls _ _ _ _ fun e w' => e = .returned (.bool ((signs[j]).isPrefixOf r)) ∧ w' = wr) at HC
      generalize (signs[j]).isPrefixOf r = f at *
      generalize signs[j] = s at *
      go_wp2_with fail
      go_at_call 110
      refine HC.out.mono ?_
      rintro e w' ⟨rfl, rfl⟩
      cases f with
      | true =>
        have HF' : Hid (sgn r = s) := Lib.hid (by unfold sgn; rw [HF.out (by first | rfl | trivial)]; rfl)
        go_wp2_with fail
        go_ret
        exact ⟨by rw [HF'.out]; rfl, Below.refl _ _⟩
      | false =>
        go_wp2_with fail
        go_round
        case rel => exact ⟨j + 1, by omega, by go_num, Lib.hid (fun k hk hkj => HS.out k hk hkj (by first | rfl | trivial)), trivial⟩
        case measure => simp [intOf]; omega
    · have HN : Hid (sgn r = []) := Lib.hid (by
        unfold sgn
        have : signs.find? (fun s => s.isPrefixOf r) = Option.none := by
          rw [List.find?_eq_none]
          intro s hs
          obtain ⟨k, hk, rfl⟩ := List.getElem_of_mem hs
          have hk' : k < 14 := hk
          simp [HT.out k hk (by omega)]
        rw [this]; rfl)
      go_wp2_with fail
      go_ret
      exact ⟨by rw [HN.out]; rfl, Below.refl _ _⟩
end Go.Proofs.YtdhdjfkknfbmhaaGreatDoor
