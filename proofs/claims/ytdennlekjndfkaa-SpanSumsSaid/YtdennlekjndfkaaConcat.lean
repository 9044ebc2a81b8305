/- slices.Concat of two slices of spans. -/
import Derived.Test.YtdennlekjndfkaaOwn
import Derived.Test.YtdennlekjndfkaaShelf2
import Derived.Lib.Hide
namespace Go.Proofs.Ytdennlekjndfkaa
open Go.RowKit Go.Lib Go.Shelf

theorem Own.drew {w : World} {B : Nat} {v : Value} {l : List Sp} (h : Own w B v l) : Own w.drew B v l := h.drewN 1

/-- Grow of a nil slice: an empty slice with room. -/
theorem grow_any (n : Nat) (hn : n ≤ 8796093022207) (w : World) :
    Calls Try.prog 52 #[.slice none 0 0, .int .i64 n] w fun e w' => ∃ v, e = .returned v ∧ Own w' w.heap.size v [] ∧ Below w.heap.size w w' := by
  by_cases h : n = 0
  · subst h
    have hc := Any8.slices_Grow_room Try.growSp none 0 0 0 w (Nat.le_refl _) (by omega) (by omega) (by omega)
    change Calls Try.prog 52 _ _ _ at hc
    exact hc.mono fun e w' ⟨he, hw⟩ => ⟨_, he, by rw [hw]; exact Own.nil _ _, by rw [hw]; exact Below.refl _ _⟩
  · obtain ⟨i0, hi, hz0, hz1, hz2⟩ := info_parts Try.infoSp
    have hc := Any8.slices_Grow_grow Try.growSp i0 _ hi hz0 (by omega) none 0 0 n [] w (Nat.le_refl _) (by omega) (by rw [hz2]; omega) (by omega) (by simp) (fun _ => rfl) (fun a h => by cases h)
    change Calls Try.prog 52 _ _ _ at hc
    refine hc.mono ?_
    rintro e w' ⟨rfl, rfl⟩
    refine ⟨_, rfl, ?_, (((Below.refl _ w).drew).alloc (Nat.le_refl _) _)⟩
    exact World.ownsRow_made w.drew _ _ (Nat.le_refl _) (grownCap_le_maxLen w _ _ _ (by unfold maxLen; omega)) (by
      have hz : ∀ k, (Builtin.zeroCells (Value.agg #[.int .i64 0, .int .i64 0]).cells k).size = k * 2 := fun k => size_zeroCells _ _
      have hge := grownCap_ge w (0 + n) 0 23
      change _ = grownCap w (0 + n) 0 23 * 2
      simp only [Array.size_append, hz]
      simp only [Nat.zero_add] at hge ⊢
      show 0 + (n - 0) * 2 + (grownCap w n 0 23 - n) * 2 = grownCap w n 0 23 * 2
      omega)

set_option maxRecDepth 100000 in
set_option maxHeartbeats 1000000 in
theorem concat_any (p q : Option Addr) (cap cap' g : Nat) (a b : List Sp) (w : World) (B B' : Nat) (ha : SpAt w B p a) (hb : SpAt w B' q b) (hpc : p = none → cap = 0) (hqc : q = none → cap' = 0) (hla : a.length ≤ 4096) (hlb : b.length ≤ 4096)
    (c1 : w.cell? ⟨g, 0, none⟩ = some (.slice p a.length cap)) (c2 : w.cell? ⟨g, 1, none⟩ = some (.slice q b.length cap')) :
    Calls Try.prog 38 #[.slice (some ⟨g, 0, none⟩) 2 2] w fun e w' => ∃ v, e = .returned v ∧ Own w' w.heap.size v (a ++ b) ∧ Below w.heap.size w w' := by
  have hg : g < w.heap.size := World.block_lt_of_cell? _ ⟨g, 0, none⟩ c1
  have HA := Lib.hid ha
  have HB := Lib.hid hb
  clear ha hb
  go_enter Try.func38, Try.ntmps38
  go_wp2_with fail
  refine wp_loop_rounds 3 ?_
  repeat any_goals (rw [rounds_succ]; go_wp2_with fail)
  rw [show ((a.length : Int) + (b.length : Int)) = ((a.length + b.length : Nat) : Int) from (Int.natCast_add _ _).symm]
  refine (grow_any (a.length + b.length) (by omega) _).mono ?_
  rintro e w1 ⟨v1, rfl, hown, hb1⟩
  have d1 := (hb1.cell (p := ⟨g, 0, none⟩) hg).trans c1
  have d2 := (hb1.cell (p := ⟨g, 1, none⟩) hg).trans c2
  have ha1 := HA.out.below hb1
  have hz1 := hb1.size
  have HB1 := Lib.hid hb1
  clear hb1 c1 c2
  go_wp2_with fail
  refine wp_loop_rounds 3 ?_
  rw [rounds_succ]
  go_wp2_with (at_builtin; refine wpList_appAll rfl _ _ rfl w.heap.size v1 [] hown rfl B p cap a ha1 hpc rfl (by simp; omega) hz1 ?_; intro v2 w2 hown2 hb2)
  have d3 := (hb2.cell (p := ⟨g, 1, none⟩) hg).trans d2
  have HB2 := Lib.hid (HB1.out.trans hb2)
  have hb3 := HB.out.below HB2.out
  have hz2 := HB2.out.size
  clear hb2 ha1 hown d1 d2
  go_wp2_with fail
  rw [rounds_succ]
  go_wp2_with (at_builtin; refine wpList_appAll rfl _ _ rfl w.heap.size v2 ([] ++ a) hown2 rfl B' q cap' b hb3 hqc rfl (by simp; omega) hz2 ?_; intro v3 w3 hown3 hb4)
  have HB4 := Lib.hid (HB2.out.trans hb4)
  clear hb4 hb3 d3 hown2
  go_wp2_with fail
  rw [rounds_succ]
  go_wp2_with fail
  go_ret
  exact ⟨v3, rfl, by rw [List.nil_append] at hown3; exact hown3, HB4.out⟩
end Go.Proofs.Ytdennlekjndfkaa
