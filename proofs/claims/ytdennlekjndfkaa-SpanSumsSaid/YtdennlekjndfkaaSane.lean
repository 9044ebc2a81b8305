/- sane: the examples of the chapter. -/
import Derived.Test.YtdennlekjndfkaaOf
import Derived.Test.YtdennlekjndfkaaAdd
import Derived.Test.YtdennlekjndfkaaShift
import Derived.Test.YtdennlekjndfkaaIn
import Derived.Test.YtdennlekjndfkaaDrift
namespace Go.Proofs.Ytdennlekjndfkaa
open Go.RowKit

instance : DecidablePred FitSp := fun s => by unfold FitSp; infer_instance

theorem ints_new (w : World) (ty : TypeId) (L : List Sp) : IntsAt (w.alloc (.cells (flat L).toArray ty)) w.heap.size L := by
  refine ⟨by simp, fun i hi => ?_⟩
  obtain ⟨h1, h2⟩ := flat_get L i hi
  have hg := World.alloc_heap_new w (.cells (flat L).toArray ty)
  have key : ∀ j u, (flat L)[j]? = some u → (w.alloc (.cells (flat L).toArray ty)).cell? ⟨w.heap.size, j, none⟩ = some u := by
    intro j u hu
    rw [cell_of_row _ w.heap.size j _ ty (0, 0) hg]
    simpa using hu
  rw [Nat.mul_comm]
  exact ⟨key _ _ h1, key _ _ h2⟩
theorem of_new (L : List Sp) (n : Nat) (hn : n = 2 * L.length) (hL : L.length ≤ 1000000) (hf : ∀ s ∈ L, FitSp s) (w : World) :
    Calls Try.prog 31 #[.slice (some ⟨w.heap.size, 0, none⟩) n n] (w.alloc (.cells (flat L).toArray 3)) fun e w' => ∃ p c, e = .returned (.slice p L.length c) ∧ SpAt w' w.heap.size p L ∧ (p = none → c = 0) ∧ Below w.heap.size w w' := by
  refine (of_any w.heap.size n n L _ (ints_new w 3 L) hn hL hf).mono ?_
  rintro e w' ⟨p, c, he, hs, hc, hb⟩
  exact ⟨p, c, he, hs.mono (by simp), hc, ((Below.refl _ w).alloc (Nat.le_refl _) _).trans (hb.mono (by simp))⟩

theorem set_c (p : Option Addr) (c : Nat) (w : World) (B : Nat) (h : SpAt w B p [(5, 6), (1, 2), (3, 3)]) : Calls Try.prog 13 #[.slice p 3 c] w (Res w [(1, 3), (5, 6)] 0) := by
  have := (set_any p c _ w B h).mono (fun e w' h => h.res)
  rw [show setS [(5, 6), (1, 2), (3, 3)] = [(1, 3), (5, 6)] by decide, show errL [(5, 6), (1, 2), (3, 3)] = 0 by decide] at this
  exact this
theorem add_c (p q : Option Addr) (c c' : Nat) (w : World) (B B' : Nat) (h : SpAt w B p [(0, 1), (10, 11)]) (h' : SpAt w B' q [(0, 0), (5, 5)]) : Calls Try.prog 24 #[.slice p 2 c, .slice q 2 c'] w (Res w [(0, 1), (5, 6), (10, 11), (15, 16)] 0) := by
  have := add_ok p q c c' _ _ w B B' h h' (by decide) (by decide)
  rw [show addS [(0, 1), (10, 11)] [(0, 0), (5, 5)] = [(0, 1), (5, 6), (10, 11), (15, 16)] by decide, show addE [(0, 1), (10, 11)] [(0, 0), (5, 5)] = 0 by decide] at this
  exact this
theorem meet_c (p q : Option Addr) (c c' : Nat) (w : World) (B B' : Nat) (h : SpAt w B p [(1, 5)]) (h' : SpAt w B' q [(4, 9)]) : Calls Try.prog 17 #[.slice p 1 c, .slice q 1 c'] w (Res w [(4, 5)] 0) := by
  have := (meet_any p q c c' _ _ w B B' h h').mono (fun e w' h => h.res)
  rw [show meetS [(1, 5)] [(4, 9)] = [(4, 5)] by decide, show meetE [(1, 5)] [(4, 9)] = 0 by decide] at this
  exact this
theorem shift_c (p : Option Addr) (c : Nat) (w : World) (B : Nat) (h : SpAt w B p [(0, 1)]) : Calls Try.prog 26 #[.slice p 1 c, .int .i64 70368744177664] w (Res w [] 10) := by
  have := shift_any p c _ 70368744177664 (by decide) w B h
  rw [show shiftS [(0, 1)] 70368744177664 = [] by decide, show shiftE [(0, 1)] 70368744177664 = 10 by decide] at this
  exact this
theorem drift_c1 (w : World) : Calls Try.prog 28 #[.int .i64 50000, .int .i64 20] w fun e w' => e = .returned (.tuple #[.int .i64 1, .int .i64 0]) ∧ w' = w := by
  have := drift_any 50000 20 (by decide) (by decide) w
  rw [show driftN 50000 20 = 1 by decide, show driftE 50000 20 = 0 by decide] at this
  exact this
theorem drift_c2 (w : World) : Calls Try.prog 28 #[.int .i64 (-50001), .int .i64 20] w fun e w' => e = .returned (.tuple #[.int .i64 2, .int .i64 0]) ∧ w' = w := by
  have := drift_any (-50001) 20 (by decide) (by decide) w
  rw [show driftN (-50001) 20 = 2 by decide, show driftE (-50001) 20 = 0 by decide] at this
  exact this
theorem check_c (w : World) : Calls Try.prog 19 #[.agg #[.int .i64 3, .int .i64 2]] w fun e w' => e = .returned (.int .i64 10) ∧ Below w.heap.size w w' := check_any (3, 2) (by unfold FitSp; decide) w

set_option maxRecDepth 100000 in
set_option maxHeartbeats 4000000 in
theorem sane_any (w : World) : Calls Try.prog 11 #[] w fun e w' => e = .returned (.bool true) ∧ Below w.heap.size w w' := by
  have HB0 := Lib.hid (Below.refl w.heap.size w)
  go_enter Try.func11, Try.ntmps11
  go_wp2_with fail
  refine (of_new [(5, 6), (1, 2), (3, 3)] 6 rfl (by decide) (by decide) _).mono ?_
  rintro e w1 ⟨p1, c1, rfl, hs, _, hb⟩
  have HS1 := Lib.hid hs
  have HB1 := Lib.hid (HB0.out.trans (hb.mono HB0.out.size))
  clear hs hb
  go_wp2_with fail
  refine (set_c p1 c1 w1 _ HS1.out).mono ?_
  rintro e w2 ⟨p2, c2, rfl, hs, _, hb⟩
  have HS2 := Lib.hid hs
  have HB2 := Lib.hid (HB1.out.trans (hb.mono HB1.out.size))
  clear hs hb
  go_wp2_with fail
  refine (of_new [(0, 1), (10, 11)] 4 rfl (by decide) (by decide) _).mono ?_
  rintro e w3 ⟨p3, c3, rfl, hs, _, hb⟩
  have HS2 := Lib.hid (HS2.out.below hb)
  have HS3 := Lib.hid hs
  have HB3 := Lib.hid (HB2.out.trans (hb.mono HB2.out.size))
  clear hs hb
  go_wp2_with fail
  refine (of_new [(0, 0), (5, 5)] 4 rfl (by decide) (by decide) _).mono ?_
  rintro e w4 ⟨p4, c4, rfl, hs, _, hb⟩
  have HS2 := Lib.hid (HS2.out.below hb)
  have HS3 := Lib.hid (HS3.out.below hb)
  have HS4 := Lib.hid hs
  have HB4 := Lib.hid (HB3.out.trans (hb.mono HB3.out.size))
  clear hs hb
  go_wp2_with fail
  refine (add_c p3 p4 c3 c4 w4 _ _ HS3.out HS4.out).mono ?_
  rintro e w5 ⟨p5, c5, rfl, hs, _, hb⟩
  have HS2 := Lib.hid (HS2.out.below hb)
  have HS5 := Lib.hid hs
  have HB5 := Lib.hid (HB4.out.trans (hb.mono HB4.out.size))
  clear hs hb
  go_wp2_with fail
  refine (of_new [(1, 5)] 2 rfl (by decide) (by decide) _).mono ?_
  rintro e w6 ⟨p6, c6, rfl, hs, _, hb⟩
  have HS2 := Lib.hid (HS2.out.below hb)
  have HS5 := Lib.hid (HS5.out.below hb)
  have HS6 := Lib.hid hs
  have HB6 := Lib.hid (HB5.out.trans (hb.mono HB5.out.size))
  clear hs hb
  go_wp2_with fail
  refine (of_new [(4, 9)] 2 rfl (by decide) (by decide) _).mono ?_
  rintro e w7 ⟨p7, c7, rfl, hs, _, hb⟩
  have HS2 := Lib.hid (HS2.out.below hb)
  have HS5 := Lib.hid (HS5.out.below hb)
  have HS6 := Lib.hid (HS6.out.below hb)
  have HS7 := Lib.hid hs
  have HB7 := Lib.hid (HB6.out.trans (hb.mono HB6.out.size))
  clear hs hb
  go_wp2_with fail
  refine (meet_c p6 p7 c6 c7 w7 _ _ HS6.out HS7.out).mono ?_
  rintro e w8 ⟨p8, c8, rfl, hs, _, hb⟩
  have HS2 := Lib.hid (HS2.out.below hb)
  have HS5 := Lib.hid (HS5.out.below hb)
  have HS8 := Lib.hid hs
  have HB8 := Lib.hid (HB7.out.trans (hb.mono HB7.out.size))
  clear hs hb
  go_wp2_with fail
  refine (of_new [(0, 1)] 2 rfl (by decide) (by decide) _).mono ?_
  rintro e w9 ⟨p9, c9, rfl, hs, _, hb⟩
  have HS2 := Lib.hid (HS2.out.below hb)
  have HS5 := Lib.hid (HS5.out.below hb)
  have HS8 := Lib.hid (HS8.out.below hb)
  have HS9 := Lib.hid hs
  have HB9 := Lib.hid (HB8.out.trans (hb.mono HB8.out.size))
  clear hs hb
  go_wp2_with fail
  refine (shift_c p9 c9 w9 _ HS9.out).mono ?_
  rintro e w10 ⟨p10, c10, rfl, hs, _, hb⟩
  have HS2 := Lib.hid (HS2.out.below hb)
  have HS5 := Lib.hid (HS5.out.below hb)
  have HS8 := Lib.hid (HS8.out.below hb)
  have HS10 := Lib.hid hs
  have HB10 := Lib.hid (HB9.out.trans (hb.mono HB9.out.size))
  clear hs hb
  go_wp2_with fail
  refine (drift_c1 _).mono ?_
  rintro e w' ⟨rfl, rfl⟩
  go_wp2_with fail
  refine (drift_c2 _).mono ?_
  rintro e w' ⟨rfl, rfl⟩
  go_wp2_with fail
  refine (of_new [(1, 3), (5, 6)] 4 rfl (by decide) (by decide) _).mono ?_
  rintro e w11 ⟨p11, c11, rfl, hs, _, hb⟩
  have HS2 := Lib.hid (HS2.out.below hb)
  have HS5 := Lib.hid (HS5.out.below hb)
  have HS8 := Lib.hid (HS8.out.below hb)
  have HS11 := Lib.hid hs
  have HB11 := Lib.hid (HB10.out.trans (hb.mono HB10.out.size))
  clear hs hb
  go_wp2_with fail
  refine (same_any p2 p11 c2 c11 [(1, 3), (5, 6)] [(1, 3), (5, 6)] w11 _ _ HS2.out HS11.out).mono ?_
  rintro e w12 ⟨rfl, hb⟩
  have HS2 := Lib.hid (HS2.out.below hb)
  have HS5 := Lib.hid (HS5.out.below hb)
  have HS8 := Lib.hid (HS8.out.below hb)
  have HB12 := Lib.hid (HB11.out.trans (hb.mono HB11.out.size))
  clear hb
  go_wp2_with fail
  refine (of_new [(0, 1), (5, 6), (10, 11), (15, 16)] 8 rfl (by decide) (by decide) _).mono ?_
  rintro e w13 ⟨p13, c13, rfl, hs, _, hb⟩
  have HS2 := Lib.hid (HS2.out.below hb)
  have HS5 := Lib.hid (HS5.out.below hb)
  have HS8 := Lib.hid (HS8.out.below hb)
  have HS13 := Lib.hid hs
  have HB13 := Lib.hid (HB12.out.trans (hb.mono HB12.out.size))
  clear hs hb
  go_wp2_with fail
  refine (same_any p5 p13 c5 c13 [(0, 1), (5, 6), (10, 11), (15, 16)] [(0, 1), (5, 6), (10, 11), (15, 16)] w13 _ _ HS5.out HS13.out).mono ?_
  rintro e w14 ⟨rfl, hb⟩
  have HS2 := Lib.hid (HS2.out.below hb)
  have HS5 := Lib.hid (HS5.out.below hb)
  have HS8 := Lib.hid (HS8.out.below hb)
  have HB14 := Lib.hid (HB13.out.trans (hb.mono HB13.out.size))
  clear hb
  go_wp2_with fail
  refine (of_new [(4, 5)] 2 rfl (by decide) (by decide) _).mono ?_
  rintro e w15 ⟨p15, c15, rfl, hs, _, hb⟩
  have HS2 := Lib.hid (HS2.out.below hb)
  have HS8 := Lib.hid (HS8.out.below hb)
  have HS15 := Lib.hid hs
  have HB15 := Lib.hid (HB14.out.trans (hb.mono HB14.out.size))
  clear hs hb
  go_wp2_with fail
  refine (same_any p8 p15 c8 c15 [(4, 5)] [(4, 5)] w15 _ _ HS8.out HS15.out).mono ?_
  rintro e w16 ⟨rfl, hb⟩
  have HS2 := Lib.hid (HS2.out.below hb)
  have HS8 := Lib.hid (HS8.out.below hb)
  have HB16 := Lib.hid (HB15.out.trans (hb.mono HB15.out.size))
  clear hb
  go_wp2_with fail
  refine (check_c w16).mono ?_
  rintro e w17 ⟨rfl, hb⟩
  have HS2 := Lib.hid (HS2.out.below hb)
  have HB17 := Lib.hid (HB16.out.trans (hb.mono HB16.out.size))
  clear hb
  go_wp2_with fail
  refine (of_new [(3, 2)] 2 rfl (by decide) (by decide) _).mono ?_
  rintro e w18 ⟨p18, c18, rfl, hs, _, hb⟩
  have HS2 := Lib.hid (HS2.out.below hb)
  have HS18 := Lib.hid hs
  have HB18 := Lib.hid (HB17.out.trans (hb.mono HB17.out.size))
  clear hs hb
  go_wp2_with fail
  refine (in_any p18 c18 [(3, 2)] 3 w18 _ HS18.out).mono ?_
  rintro e w19 ⟨rfl, hb⟩
  have HS2 := Lib.hid (HS2.out.below hb)
  have HB19 := Lib.hid (HB18.out.trans (hb.mono HB18.out.size))
  clear hb
  go_wp2_with fail
  refine (in_any p2 c2 [(1, 3), (5, 6)] 2 w19 _ HS2.out).mono ?_
  rintro e w20 ⟨rfl, hb⟩
  have HS2 := Lib.hid (HS2.out.below hb)
  have HB20 := Lib.hid (HB19.out.trans (hb.mono HB19.out.size))
  clear hb
  go_wp2_with fail
  go_ret
  exact ⟨rfl, HB20.out⟩
end Go.Proofs.Ytdennlekjndfkaa

