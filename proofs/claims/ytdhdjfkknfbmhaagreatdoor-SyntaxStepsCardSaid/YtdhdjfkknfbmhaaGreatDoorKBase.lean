/- Texts and bytes as the walks meet them. -/
import Derived.Test.YtdhdjfkknfbmhaaGreatDoorProg
import Derived.Test.YtdhdjfkknfbmhaaGreatDoorKLex
import Derived.WalkKit
import Derived.WalkSpells
import Derived.WalkLawsBesides
import Derived.Handy
import Derived.Lib.Hide
namespace Go.Proofs.YtdhdjfkknfbmhaaGreatDoor
open Go.RowKit

theorem ret_int {a b : Int} (h : a = b) : Ending.returned (.int .i64 a) = .returned (.int .i64 b) := by rw [h]
theorem ret_bool {a b : Bool} (h : a = b) : Ending.returned (.bool a) = .returned (.bool b) := by rw [h]

/-- The text of a list of bytes. -/
def S (l : Bs) : ByteArray := ⟨l.toArray⟩
theorem S_list (s : ByteArray) : S s.data.toList = s := rfl
theorem S_data (l : Bs) : (S l).data.toList = l := by simp [S]
theorem S_size (l : Bs) : (S l).size = l.length := by simp [S, ByteArray.size]
theorem S_toList (l : Bs) : (S l).toList = l := by rw [ByteArray.toList_eq, S_data]
theorem S_inj {a b : Bs} : S a = S b ↔ a = b := ⟨fun h => by rw [← S_data a, h, S_data], fun h => by rw [h]⟩

theorem byte_le (c : UInt8) : (0 : Int) ≤ (c.toNat : Int) ∧ (c.toNat : Int) ≤ 255 := by
  have := c.toNat_lt
  omega

theorem S_get (l : Bs) (j : Nat) (h : j < (S l).size) : (S l)[j] = l[j]'(by rw [S_size] at h; exact h) := by
  show (S l).data[j]'_ = _
  simp [S]
theorem all_take {p : UInt8 → Bool} {l : Bs} {j : Nat} (h : j < l.length) : (l.take (j + 1)).all p = ((l.take j).all p && p l[j]) := by
  rw [List.take_succ_eq_append_getElem h, List.all_append]; simp
theorem all_no {p : UInt8 → Bool} {l : Bs} {j : Nat} (h : j < l.length) (hp : p l[j] = false) : l.all p = false := by
  rw [List.all_eq_false]; exact ⟨l[j], List.getElem_mem h, by simp [hp]⟩
theorem S_get0 (l : Bs) (h : 0 < (S l).size) : (S l)[0] = l.headD 0 := by
  rw [S_get]
  cases l with
  | nil => simp [S_size] at h
  | cons c t => rfl
theorem S_extract (l : Bs) (a b : Nat) : (S l).extract a b = S ((l.take b).drop a) := by
  apply ByteArray.ext
  simp [S, ByteArray.data_extract, List.extract_toArray, List.extract_eq_take_drop, List.drop_take]
theorem beq_nat (c d : UInt8) : (c == d) = decide (c.toNat = d.toNat) := by
  rw [Bool.eq_iff_iff]; simp [← UInt8.toNat_inj]
theorem beq_int (n m : Nat) : ((n : Int) == (m : Int)) = decide (n = m) := by
  rw [Bool.eq_iff_iff]; simp; omega
theorem toNat_eq {c d : UInt8} : c.toNat = d.toNat ↔ c = d := UInt8.toNat_inj

theorem nbeq_int (c : UInt8) (n : Int) (d : UInt8) (h : (d.toNat : Int) = n) : ((c.toNat : Int) != n) = (c != d) := by
  subst h
  show (!_) = (!_)
  rw [beq_int, beq_nat]
theorem beq_int8 (c : UInt8) (n : Int) (d : UInt8) (h : (d.toNat : Int) = n) : ((c.toNat : Int) == n) = (c == d) := by
  subst h
  rw [beq_int, beq_nat]

theorem letter_any (c : UInt8) (w : World) :
    Calls Tryz.prog 143 #[.int .u8 c.toNat] w fun e w' => e = .returned (.bool (isL c)) ∧ w' = w := by
  have hc := byte_le c
  unfold isL
  generalize c.toNat = n at *
  go_enter Tryz.func143, Tryz.ntmps143
  go_wp2_with fail
  all_goals
    go_ret
    refine ⟨ret_bool ?_, rfl⟩
    rw [Bool.eq_iff_iff]
    simp
    try omega
theorem digit_any (c : UInt8) (w : World) :
    Calls Tryz.prog 174 #[.int .u8 c.toNat] w fun e w' => e = .returned (.bool (isD c)) ∧ w' = w := by
  have hc := byte_le c
  unfold isD
  generalize c.toNat = n at *
  go_enter Tryz.func174, Tryz.ntmps174
  go_wp2_with fail
  all_goals
    go_ret
    refine ⟨ret_bool ?_, rfl⟩
    rw [Bool.eq_iff_iff]
    simp
    try omega
end Go.Proofs.YtdhdjfkknfbmhaaGreatDoor
