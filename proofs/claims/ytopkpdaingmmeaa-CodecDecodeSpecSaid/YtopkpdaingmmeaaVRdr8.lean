/- The specification's reader: any value, at any depth. -/
import Derived.Test.YtopkpdaingmmeaaVRdr5
import Derived.Test.YtopkpdaingmmeaaVRdr7
namespace Go.Proofs.Ytopkpdaingmmeaa
open Go.RowKit

theorem value_step (d dd : Nat) (hdd : dd + d = 16) (ih : ∀ d', d = d' + 1 → ReadR d' (dd + 1)) : ReadR d dd := by
  intro w lo rb p cap bs at' h
  by_cases hlt : at' < bs.length
  · by_cases h1 : bs[at'].toNat = 1
    · exact refValue_int d dd w lo rb p cap bs at' h hlt h1
    · by_cases h2 : bs[at'].toNat = 2
      · exact refValue_text d dd w lo rb p cap bs at' h hlt h2
      · by_cases h3 : bs[at'].toNat = 3
        · exact refValue_list d dd hdd ih w lo rb p cap bs at' h hlt h3
        · exact refValue_other d dd w lo rb p cap bs at' h hlt h1 h2 h3
  · exact refValue_end d dd w lo rb p cap bs at' h (by omega)
theorem readR_any (d : Nat) : ∀ dd, dd + d = 16 → ReadR d dd := by
  induction d with
  | zero => exact fun dd h => value_step 0 dd h fun d' e => by omega
  | succ d ih => exact fun dd h => value_step (d + 1) dd h fun d' e => (show d = d' by omega) ▸ ih (dd + 1) (by omega)
end Go.Proofs.Ytopkpdaingmmeaa
