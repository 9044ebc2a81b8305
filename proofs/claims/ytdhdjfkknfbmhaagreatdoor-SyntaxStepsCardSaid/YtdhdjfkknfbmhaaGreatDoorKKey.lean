/- Keywords. -/
import Derived.Test.YtdhdjfkknfbmhaaGreatDoorKGlob
namespace Go.Proofs.YtdhdjfkknfbmhaaGreatDoor
open Go.RowKit

def keywords : List Bs := [[99, 111, 117, 114, 115, 101], [109, 97, 116, 115], [115, 116, 97, 114, 116], [112, 97, 115, 115], [101, 110, 100], [108, 101, 103], [116, 111], [100, 105, 115, 116, 97, 110, 99, 101], [103, 117, 110], [99, 104, 105, 112], [115, 108, 111, 116], [108, 97, 112, 115], [108, 97, 112], [99, 117, 116, 111, 102, 102], [101, 120, 116, 114, 97], [119, 97, 118, 101], [111, 102, 102, 101, 110, 99, 101], [111, 117, 116], [99, 97, 116, 101, 103, 111, 114, 121], [112, 114, 105, 122, 101], [97, 108, 108], [116, 105, 101, 115], [105, 102], [101, 108, 115, 101], [97, 110, 100], [111, 114], [110, 111, 116], [111, 108, 100, 101, 114], [121, 111, 117, 110, 103, 101, 114], [98, 105, 98], [100, 114, 97, 119], [102, 105, 101, 108, 100], [115, 104, 111, 114, 116], [102, 97, 117, 108, 116, 115], [109, 105, 115, 115, 101, 115], [115, 116, 114, 97, 121, 115], [119, 105, 110, 100, 111, 119], [114, 101, 115, 105, 100, 117, 97, 108], [100, 114, 105, 102, 116], [112, 114, 111, 116, 101, 115, 116], [102, 101, 101], [100, 101, 97, 100, 108, 105, 110, 101]]
set_option maxHeartbeats 4000000 in
set_option maxRecDepth 100000 in
theorem keyword_any (l : Bs) (w : World) : Calls Tryz.prog 161 #[.string (S l)] w fun e w' => e = .returned (.bool (keywords.contains l)) ∧ w' = w := by
  generalize hk : keywords.contains l = k
  have HK := Lib.hid hk
  clear hk
  go_enter Tryz.func161, Tryz.ntmps161
  go_wp2_with fail
  all_goals (try (rename_i ha hb; first | (rw [ha] at hb; exact absurd hb (by decide)) | (rw [hb] at ha; exact absurd ha (by decide)) | (go_ret; refine ⟨?_, rfl⟩; rw [← HK.out]; rw [S_toList] at hb; have he := eq_of_beq hb; rw [he]; rfl)))
  go_ret
  refine ⟨?_, rfl⟩
  rw [← HK.out]
  simp only [S_toList] at *
  simp_all [keywords]
end Go.Proofs.YtdhdjfkknfbmhaaGreatDoor
