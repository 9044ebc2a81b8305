/- Names; a course without contents. -/
import Derived.Test.YtabdgnigmlpeaaaGreatDoorTMapN
import Derived.Test.YtabdgnigmlpeaaaGreatDoorTReadS
import Derived.Test.YtabdgnigmlpeaaaGreatDoorShelf
namespace Go.Proofs.YtabdgnigmlpeaaaGreatDoor
open Go.RowKit

def letB : Bs := [97, 98, 99, 100, 101, 102, 103, 104, 105, 106, 107, 108, 109, 110, 111, 112, 113, 114, 115, 116, 117, 118, 119, 120, 121, 122]
def nameB : Bs := letB ++ [48, 49, 50, 51, 52, 53, 54, 55, 56, 57, 95]
theorem ascii_of (l : Bs) (h : l.all (fun b => decide (b.toNat < 128)) = true) : ∀ (j : Nat) b, l[j]? = some b → b.toNat < 128 := by
  intro j b hb
  have := List.all_eq_true.1 h b (List.mem_of_getElem? hb)
  simpa using this
theorem trimA_any (c : Bs) (hc : c = letB ∨ c = nameB) (w : World) :
    Calls Tryz.prog 130 #[.string (S [97]), .string (S c)] w fun e w' => e = .returned (.string (S [])) ∧ Below w.heap.size w w' := by
  have := Any.strings_TrimLeft_laid Tryz.lays161 (by kernel_rfl) (S [97]) (S c) w (by rw [S_size]; rcases hc with rfl | rfl <;> decide) (by rw [S_data]; rcases hc with rfl | rfl <;> exact ascii_of _ (by decide))
  rw [S_data, S_data] at this
  refine this.mono ?_
  rintro e w' ⟨rfl, hb⟩
  refine ⟨?_, hb⟩
  unfold Lib.trimLeftS
  rcases hc with rfl | rfl <;> rfl
set_option maxHeartbeats 4000000 in
set_option maxRecDepth 100000 in
theorem keyA_any (w : World) : Calls Tryz.prog 131 #[.string (S [97])] w fun e w' => e = .returned (.bool false) ∧ Below w.heap.size w w' := by
  have HB := Lib.hid (Below.refl w.heap.size w)
  unfold S
  go_enter Tryz.func131, Tryz.ntmps131
  go_wp2_with fail
  go_ret
  exact ⟨rfl, HB.out⟩
set_option maxHeartbeats 4000000 in
set_option maxRecDepth 100000 in
theorem nameA_any (w : World) : Calls Tryz.prog 60 #[.string (S [97])] w fun e w' => e = .returned (.bool true) ∧ Below w.heap.size w w' := by
  have H1 : Hid (∀ w, Calls Tryz.prog 130 #[.string ⟨#[97]⟩, .string ⟨#[97, 98, 99, 100, 101, 102, 103, 104, 105, 106, 107, 108, 109, 110, 111, 112, 113, 114, 115, 116, 117, 118, 119, 120, 121, 122]⟩] w fun e w' => e = .returned (.string ⟨#[]⟩) ∧ Below w.heap.size w w') := Lib.hid fun w => trimA_any letB (.inl rfl) w
  have H2 : Hid (∀ w, Calls Tryz.prog 130 #[.string ⟨#[97]⟩, .string ⟨#[97, 98, 99, 100, 101, 102, 103, 104, 105, 106, 107, 108, 109, 110, 111, 112, 113, 114, 115, 116, 117, 118, 119, 120, 121, 122, 48, 49, 50, 51, 52, 53, 54, 55, 56, 57, 95]⟩] w fun e w' => e = .returned (.string ⟨#[]⟩) ∧ Below w.heap.size w w') := Lib.hid fun w => trimA_any nameB (.inr rfl) w
  have H3 : Hid (∀ w, Calls Tryz.prog 131 #[.string ⟨#[97]⟩] w fun e w' => e = .returned (.bool false) ∧ Below w.heap.size w w') := Lib.hid fun w => keyA_any w
  have hx : (⟨#[97]⟩ : ByteArray).extract 0 1 = ⟨#[97]⟩ := by rfl
  unfold S
  go_enter Tryz.func60, Tryz.ntmps60
  go_wp2_with (first | (go_at_call 130; (with_reducible refine (H1.out _).mono ?_); rintro e w1 ⟨rfl, hb⟩; have HB1 := Lib.hid hb; clear hb) | (go_at_call 130; (with_reducible refine (H2.out _).mono ?_); rintro e w2 ⟨rfl, hb⟩; have HB2 := Lib.hid (HB1.out.trans (hb.mono HB1.out.size)); clear hb) | (go_at_call 131; (with_reducible refine (H3.out _).mono ?_); rintro e w3 ⟨rfl, hb⟩; have HB3 := Lib.hid (HB2.out.trans (hb.mono HB2.out.size)); clear hb))
  go_ret
  exact ⟨rfl, HB3.out⟩
theorem name0_any (w : World) : Calls Tryz.prog 60 #[.string ⟨#[]⟩] w fun e w' => e = .returned (.bool false) ∧ Below w.heap.size w w' := by
  have HB := Lib.hid (Below.refl w.heap.size w)
  go_enter Tryz.func60, Tryz.ntmps60
  go_wp2_with fail
  go_ret
  exact ⟨rfl, HB.out⟩
end Go.Proofs.YtabdgnigmlpeaaaGreatDoor
