/- Join of no tokens, and of the end alone; tokens of the examples. -/
import Derived.Test.YtlcmedimgoaneaaGreatDoorKTok
namespace Go.Proofs.YtlcmedimgoaneaaGreatDoor
open Go.RowKit

set_option maxRecDepth 100000 in
theorem joinNil_any (w : World) : Calls Tryz.prog 17 #[.slice none 0 0] w fun e w' => e = .returned (.tuple #[.slice none 0 0, .int .i64 1]) ∧ Below w.heap.size w w' := by
  go_enter Tryz.func17, Tryz.ntmps17
  go_wp2_with fail
  go_ret2
  exact ⟨rfl, Below.refl _ _⟩
set_option maxRecDepth 100000 in
theorem joinEnd_any (w : World) (b : Nat) (h0 : w.cell? ⟨b, 0, none⟩ = some (.int .i64 6)) (h1 : w.cell? ⟨b, 1, none⟩ = some (.string ⟨#[]⟩)) : Calls Tryz.prog 17 #[.slice (some ⟨b, 0, none⟩) 1 1] w fun e w' => e = .returned (.tuple #[.slice none 0 0, .int .i64 0]) ∧ Below w.heap.size w w' := by
  go_enter Tryz.func17, Tryz.ntmps17
  go_wp2_with fail
  go_loopw [2, 34] (fun v i wr => v = .slice none 0 0 ∧ i = .int .i64 0 ∧ wr = w) (fun _ _ _ => 0)
  case atStart => exact ⟨rfl, rfl, rfl⟩
  case round =>
    obtain ⟨rfl, rfl, rfl⟩ := hrel
    go_wp2_with fail
    go_ret2
    exact ⟨rfl, Below.refl _ _⟩

theorem tokens_ok (l : Bs) (hl : l.length ≤ 65536) (w : World) (hG : Gl w) (B : Nat) (p : Option Addr) (cap : Nat) (hp : BAt w B p l) :
    Calls Tryz.prog 12 #[.slice p l.length cap] w fun e w' => Below w.heap.size w w' ∧
      ∃ v1 v2, e = .returned (.tuple #[v1, v2, .int .i64 0]) ∧ TRow w' w.heap.size v1 ((tokens l).1.map Tk.tok) ∧ PRow w' w.heap.size v2 (tokens l).2 := by
  have := tokens_any l (by omega) w hG B p cap hp
  simpa only [if_neg (show ¬ 65536 < l.length by omega)] using this

theorem tk1 : tokens [48, 58, 51, 48, 46, 46, 45, 53] = ([⟨3, [48, 58, 51, 48], 0⟩, ⟨5, [46, 46], 4⟩, ⟨2, [45, 53], 6⟩, ⟨6, [], 8⟩], []) := by rfl
theorem tk2 : tokens [48, 48, 55, 37, 36] = ([⟨6, [], 5⟩], [0]) := by rfl
theorem qt3 : qt [34, 97, 92, 34, 98, 34] = some ([97, 34, 98], 6) := by
  have h1 : chr [97, 92, 34, 98, 34] = (97, 1) := by decide
  have h2 : chr [92, 34, 98, 34] = (34, 2) := by decide
  have h3 : chr [98, 34] = (98, 1) := by decide
  have h4 : chr [34] = (0, 0) := by decide
  have e4 : body [34] = ([], [34]) := body_stop (by rw [h4])
  have e3 : body [98, 34] = ([98], [34]) := by rw [body_go (by rw [h3]; decide), h3]; simp [e4]
  have e2 : body [92, 34, 98, 34] = ([34, 98], [34]) := by rw [body_go (by rw [h2]; decide), h2]; simp [e3]
  have e1 : body [97, 92, 34, 98, 34] = ([97, 34, 98], [34]) := by rw [body_go (by rw [h1]; decide), h1]; simp [e2]
  unfold qt
  rw [List.tail_cons, e1]
  rfl
theorem qt4 : qt [34, 97] = none := by
  have h1 : chr [97] = (97, 1) := by decide
  have h4 : chr [] = (0, 0) := by decide
  have e4 : body [] = ([], []) := body_stop (by rw [h4])
  have e1 : body [97] = ([97], []) := by rw [body_go (by rw [h1]; decide), h1]; simp [e4]
  unfold qt
  rw [List.tail_cons, e1]
  rfl
theorem tok3' : tok [34, 97, 92, 34, 98, 34] = (4, [97, 34, 98], 6) := by
  rw [tok_cons, if_neg (by decide), if_neg (by decide), if_pos rfl, qt3]
theorem tok4' : tok [34, 97] = (0, [34], 1) := by
  rw [tok_cons, if_neg (by decide), if_neg (by decide), if_pos rfl, qt4]
theorem tk3 : tokens [34, 97, 92, 34, 98, 34] = ([⟨4, [97, 34, 98], 0⟩, ⟨6, [], 6⟩], []) := by
  have h : skp false [34, 97, 92, 34, 98, 34] = [34, 97, 92, 34, 98, 34] := by decide
  unfold tokens
  show lex 7 _ _ _ _ = _
  rw [lex, h, tok3']
  rfl
theorem tk4 : tokens [34, 97] = ([⟨1, [97], 1⟩, ⟨6, [], 2⟩], [0]) := by
  have h : skp false [34, 97] = [34, 97] := by decide
  unfold tokens
  show lex 3 _ _ _ _ = _
  rw [lex, h, tok4']
  rfl
end Go.Proofs.YtlcmedimgoaneaaGreatDoor
