/- The examples hold: sane. -/
import Derived.Test.YtabdgnigmlpeaaaGreatDoorTLaw1
namespace Go.Proofs.YtabdgnigmlpeaaaGreatDoor
open Go.RowKit

theorem two_reads (V : World) (a b : Int) (k : Nat) (hk : V.heap.size = k) : ReadsI (V.alloc (.cells #[.int .i64 a, .int .i64 b] 3)) (.slice (some ⟨k, 0, none⟩) 2 2) [a, b] := by
  subst hk
  refine ⟨_, 2, V.heap.size, rfl, by simp, fun _ => rfl, fun i hi => ?_, by simp, by simp⟩
  rw [cell_new]
  have h2 : i = 0 ∨ i = 1 := by simp only [List.length_cons, List.length_nil] at hi; omega
  rcases h2 with rfl | rfl <;> rfl
theorem smYes (a : List Int) (x y : Value) (W : World) (hx : ReadsI W x a) (hy : ReadsI W y a) : Calls Tryz.prog 26 #[x, y] W fun e w' => e = .returned (.bool true) ∧ Below W.heap.size W w' := by
  have := same_any a a x y W hx hy
  rwa [decide_eq_true rfl] at this
theorem d100 {W : World} {b : Nat} (h : SsIn W (fun _ => True) S0 (some ⟨b, 0, none⟩) 3) : Calls Tryz.prog 22 #[.slice (some ⟨b, 0, none⟩) 3 3, .agg #[.int .i64 0, .int .i64 100, .int .i64 0]] W fun e w' => ∃ v, e = .returned (.tuple #[v, .int .i64 0]) ∧ ReadsI w' v [1, 4] ∧ Below W.heap.size W w' := by
  have := tDirect_any h ⟨0, 100, 0⟩
  rw [dir100] at this
  exact this
theorem d99 {W : World} {b : Nat} (h : SsIn W (fun _ => True) S0 (some ⟨b, 0, none⟩) 3) : Calls Tryz.prog 22 #[.slice (some ⟨b, 0, none⟩) 3 3, .agg #[.int .i64 0, .int .i64 99, .int .i64 0]] W fun e w' => ∃ v, e = .returned (.tuple #[v, .int .i64 0]) ∧ ReadsI w' v [1, 5] ∧ Below W.heap.size W w' := by
  have := tDirect_any h ⟨0, 99, 0⟩
  rw [dir99] at this
  exact this
theorem cYes {W : World} {b : Nat} (h : SsIn W (fun _ => True) S0 (some ⟨b, 0, none⟩) 3) : Calls Tryz.prog 12 #[.agg #[.string ⟨#[97]⟩, .slice none 0 0, .slice none 0 0, .slice none 0 0, .slice none 0 0, .slice none 0 0, .slice none 0 0, .slice none 0 0, .slice (some ⟨b, 0, none⟩) 3 3, .int .i64 0, .int .i64 0, .int .i64 0, .int .i64 0, .int .i64 0, .int .i64 0, .int .i64 0]] W fun e w' => e = .returned (.int .i64 0) ∧ Below W.heap.size W w' :=
  course_yes ⟨#[97]⟩ (some ⟨b, 0, none⟩) 3 3 (fun w => named0 _ _ _ _ nameA_any w) W (fun w' hb => by have := tTies_any (h.bel hb); rw [ties0] at this; exact this)
theorem cNo (W : World) : Calls Tryz.prog 12 #[.agg #[.string ⟨#[]⟩, .slice none 0 0, .slice none 0 0, .slice none 0 0, .slice none 0 0, .slice none 0 0, .slice none 0 0, .slice none 0 0, .slice none 0 0, .int .i64 0, .int .i64 0, .int .i64 0, .int .i64 0, .int .i64 0, .int .i64 0, .int .i64 0]] W fun e w' => e = .returned (.int .i64 70) ∧ Below W.heap.size W w' :=
  course_no ⟨#[]⟩ none 0 0 (fun w => named1 _ _ _ _ name0_any w) W
theorem cCA (W : World) : Calls Tryz.prog 16 #[.agg #[.int .i64 1, .int .i64 4, .int .i64 1, .slice none 0 0]] W fun e w' => e = .returned (.int .i64 71) ∧ Below W.heap.size W w' := by
  have := tCond_any (CdIn.leaf (w := W) (Q := fun _ => True) (k := 1) (v := 4) (n := 1))
  rw [condA] at this
  exact this
theorem cCB (W : World) : Calls Tryz.prog 16 #[.agg #[.int .i64 2, .int .i64 0, .int .i64 0, .slice none 0 0]] W fun e w' => e = .returned (.int .i64 71) ∧ Below W.heap.size W w' := by
  have := tCond_any (CdIn.leaf (w := W) (Q := fun _ => True) (k := 2) (v := 0) (n := 0))
  rw [condB] at this
  exact this
theorem cTN (W : World) : Calls Tryz.prog 18 #[.slice none 0 0] W fun e w' => e = .returned (.int .i64 71) ∧ Below W.heap.size W w' := by
  have := tTies_any (SsIn.nil (w := W) (Q := fun _ => True))
  rw [tiesN] at this
  exact this
theorem cEB (W : World) : Calls Tryz.prog 20 #[.agg #[.int .i64 0, .int .i64 4001, .int .i64 0]] W fun e w' => e = .returned (.int .i64 1) ∧ Below W.heap.size W w' := by
  have := env_any ⟨0, 4001, 0⟩ W
  rw [envBad] at this
  exact this
set_option maxHeartbeats 2000000 in
set_option maxRecDepth 100000 in
theorem sane_any (w : World) : Calls Tryz.prog 10 #[] w fun e w' => e = .returned (.bool true) ∧ Below w.heap.size w w' := by
  have HB0 := Lib.hid (Below.refl w.heap.size w)
  go_enter Tryz.func10, Tryz.ntmps10
  go_wp2_with fail
  go_at_call 33
  refine (by_any 1 _).mono ?_
  rintro e w1 ⟨rfl, hb1⟩
  go_wp2_with fail
  go_at_call 34
  refine (atl_any 2 100 _).mono ?_
  rintro e w2 ⟨rfl, hb2⟩
  go_wp2_with fail
  go_at_call 33
  refine (by_any 4 _).mono ?_
  rintro e w3 ⟨rfl, hb3⟩
  have hB3 := hb1.trans ((hb2.trans (hb3.mono hb2.size)).mono hb1.size)
  have hn3 := cell_new w3 #[.int .i64 1, .int .i64 4, .int .i64 0, .int .i64 0, .int .i64 0, .slice none 0 0, .slice none 0 0, .slice none 0 0] 84
  have hA3 := (Below.refl w3.heap.size w3).alloc (Nat.le_refl _) (.cells #[.int .i64 1, .int .i64 4, .int .i64 0, .int .i64 0, .int .i64 0, .slice none 0 0, .slice none 0 0, .slice none 0 0] 84)
  have hs3 : w3.heap.size < (w3.alloc (.cells #[.int .i64 1, .int .i64 4, .int .i64 0, .int .i64 0, .int .i64 0, .slice none 0 0, .slice none 0 0, .slice none 0 0] 84)).heap.size := by simp
  have HN3 := Lib.hid hn3
  have HA3 := Lib.hid hA3
  have HB3 := Lib.hid hB3
  clear hn3 hA3 hB3 hb1 hb2 hb3
  go_wp2_with fail
  go_at_call 33
  generalize w3.alloc (.cells #[.int .i64 1, .int .i64 4, .int .i64 0, .int .i64 0, .int .i64 0, .slice none 0 0, .slice none 0 0, .slice none 0 0] 84) = v3 at *
  refine (by_any 5 _).mono ?_
  rintro e w4 ⟨rfl, hb4⟩
  have hB4 := HB3.out.trans ((HA3.out.trans (hb4.mono HA3.out.size)).mono HB3.out.size)
  have HX3 := Lib.hid (fun j u (h : (stepL 4)[j]? = some u) => keepc hb4 ((HN3.out j).trans (by simpa [stepL] using h)))
  have hs34 : w3.heap.size < w4.heap.size := Nat.lt_of_lt_of_le hs3 hb4.size
  have HN4 := Lib.hid (cell_new w4 #[.int .i64 1, .int .i64 5, .int .i64 0, .int .i64 0, .int .i64 0, .slice none 0 0, .slice none 0 0, .slice none 0 0] 84)
  have HA4 := Lib.hid ((Below.refl w4.heap.size w4).alloc (Nat.le_refl _) (.cells #[.int .i64 1, .int .i64 5, .int .i64 0, .int .i64 0, .int .i64 0, .slice none 0 0, .slice none 0 0, .slice none 0 0] 84))
  have hs4 : w4.heap.size < (w4.alloc (.cells #[.int .i64 1, .int .i64 5, .int .i64 0, .int .i64 0, .int .i64 0, .slice none 0 0, .slice none 0 0, .slice none 0 0] 84)).heap.size := by simp
  have HB4 := Lib.hid hB4
  clear hB4 HN3 HA3 hb4 HB3
  go_wp2_with fail
  go_at_call 33
  generalize w4.alloc (.cells #[.int .i64 1, .int .i64 5, .int .i64 0, .int .i64 0, .int .i64 0, .slice none 0 0, .slice none 0 0, .slice none 0 0] 84) = v4 at *
  refine (by_any 1 _).mono ?_
  rintro e w5 ⟨rfl, hb5⟩
  have hx4 := fun j u (h : (stepL 5)[j]? = some u) => keepc hb5 ((HN4.out j).trans (by simpa [stepL] using h))
  have hx3 := fun j u (h : (stepL 4)[j]? = some u) => keepc hb5 (keepc HA4.out (HX3.out j u h))
  have hA5 := (Below.refl w5.heap.size w5).alloc (Nat.le_refl _) (.cells #[.int .i64 1, .int .i64 1, .int .i64 0, .int .i64 0, .int .i64 0, .slice none 0 0, .slice none 0 0, .slice none 0 0, .int .i64 2, .int .i64 0, .int .i64 1, .int .i64 2, .int .i64 100, .slice none 0 0, .slice (some ⟨w3.heap.size, 0, none⟩) 1 1, .slice (some ⟨w4.heap.size, 0, none⟩) 1 1, .int .i64 1, .int .i64 1, .int .i64 0, .int .i64 0, .int .i64 0, .slice none 0 0, .slice none 0 0, .slice none 0 0] 84)
  have hs35 : w3.heap.size < w5.heap.size := Nat.lt_of_lt_of_le hs34 (Nat.le_trans HA4.out.size hb5.size)
  have hs45 : w4.heap.size < w5.heap.size := Nat.lt_of_lt_of_le hs4 hb5.size
  have HS := Lib.hid (s0_in (W := w5.alloc (.cells #[.int .i64 1, .int .i64 1, .int .i64 0, .int .i64 0, .int .i64 0, .slice none 0 0, .slice none 0 0, .slice none 0 0, .int .i64 2, .int .i64 0, .int .i64 1, .int .i64 2, .int .i64 100, .slice none 0 0, .slice (some ⟨w3.heap.size, 0, none⟩) 1 1, .slice (some ⟨w4.heap.size, 0, none⟩) 1 1, .int .i64 1, .int .i64 1, .int .i64 0, .int .i64 0, .int .i64 0, .slice none 0 0, .slice none 0 0, .slice none 0 0] 84)) (b := w5.heap.size) (fun j u h => by rw [cell_new]; simpa [cellsL, stepL] using h) (by simp) (one_in (fun j u h => keepc hA5 (hx3 j u h)) (by simp; omega)) (one_in (fun j u h => keepc hA5 (hx4 j u h)) (by simp; omega)))
  have hB5 := HB4.out.trans ((HA4.out.trans (hb5.mono HA4.out.size)).mono HB4.out.size)
  have HB5 := Lib.hid (hB5.trans (hA5.mono hB5.size))
  clear hx4 hx3 hA5 hs35 hs45 hB5 hb5 HX3 HN4 HA4 HB4 hs3 hs4 hs34
  go_wp2_with fail
  go_at_call 22
  generalize w5.alloc (.cells #[.int .i64 1, .int .i64 1, .int .i64 0, .int .i64 0, .int .i64 0, .slice none 0 0, .slice none 0 0, .slice none 0 0, .int .i64 2, .int .i64 0, .int .i64 1, .int .i64 2, .int .i64 100, .slice none 0 0, .slice (some ⟨w3.heap.size, 0, none⟩) 1 1, .slice (some ⟨w4.heap.size, 0, none⟩) 1 1, .int .i64 1, .int .i64 1, .int .i64 0, .int .i64 0, .int .i64 0, .slice none 0 0, .slice none 0 0, .slice none 0 0] 84) = v5 at *
  generalize w5.heap.size = b at *
  refine (d100 HS.out).mono ?_
  rintro e w6 ⟨v1, rfl, hr1, hb⟩
  have HS6 := Lib.hid (HS.out.bel hb)
  have HB6 := Lib.hid (HB5.out.trans (hb.mono HB5.out.size))
  have HR1 := Lib.hid hr1
  clear hb hr1 HS HB5
  go_wp2_with fail
  go_at_call 22
  refine (d99 HS6.out).mono ?_
  rintro e w7 ⟨v2, rfl, hr2, hb⟩
  have hA := (Below.refl w7.heap.size w7).alloc (Nat.le_refl _) (.cells #[.string ⟨#[97]⟩, .slice none 0 0, .slice none 0 0, .slice none 0 0, .slice none 0 0, .slice none 0 0, .slice none 0 0, .slice none 0 0, .slice (some ⟨b, 0, none⟩) 3 3, .int .i64 0, .int .i64 0, .int .i64 0, .int .i64 0, .int .i64 0, .int .i64 0, .int .i64 0] 33)
  have hb2 := hb.trans (hA.mono hb.size)
  have HS7 := Lib.hid (HS6.out.bel hb2)
  have HB7 := Lib.hid (HB6.out.trans (hb2.mono HB6.out.size))
  have HR1' := Lib.hid (HR1.out.bel hb2)
  have HR2 := Lib.hid (hr2.bel hA)
  have HC7 := Lib.hid (cell_new w7 #[.string ⟨#[97]⟩, .slice none 0 0, .slice none 0 0, .slice none 0 0, .slice none 0 0, .slice none 0 0, .slice none 0 0, .slice none 0 0, .slice (some ⟨b, 0, none⟩) 3 3, .int .i64 0, .int .i64 0, .int .i64 0, .int .i64 0, .int .i64 0, .int .i64 0, .int .i64 0] 33)
  clear hb hr2 HS6 HB6 hA hb2 HR1
  have hz7 : (w7.alloc (.cells #[.string ⟨#[97]⟩, .slice none 0 0, .slice none 0 0, .slice none 0 0, .slice none 0 0, .slice none 0 0, .slice none 0 0, .slice none 0 0, .slice (some ⟨b, 0, none⟩) 3 3, .int .i64 0, .int .i64 0, .int .i64 0, .int .i64 0, .int .i64 0, .int .i64 0, .int .i64 0] 33)).heap.size = w7.heap.size + 1 := by simp
  go_wp2_with fail
  go_at_call 26
  generalize w7.alloc (.cells #[.string ⟨#[97]⟩, .slice none 0 0, .slice none 0 0, .slice none 0 0, .slice none 0 0, .slice none 0 0, .slice none 0 0, .slice none 0 0, .slice (some ⟨b, 0, none⟩) 3 3, .int .i64 0, .int .i64 0, .int .i64 0, .int .i64 0, .int .i64 0, .int .i64 0, .int .i64 0] 33) = v7 at *
  have hA := (Below.refl v7.heap.size v7).alloc (Nat.le_refl _) (.cells #[.int .i64 1, .int .i64 4] 3)
  with_reducible refine (smYes [1, 4] _ _ _ (HR1'.out.bel hA) (two_reads v7 1 4 _ hz7)).mono ?_
  rintro e w8 ⟨rfl, hb⟩
  have hb2 := hA.trans (hb.mono hA.size)
  have HS8 := Lib.hid (HS7.out.bel hb2)
  have HB8 := Lib.hid (HB7.out.trans (hb2.mono HB7.out.size))
  have HR2' := Lib.hid (HR2.out.bel hb2)
  have HC8 := Lib.hid (fun j u (h : (#[.string ⟨#[97]⟩, .slice none 0 0, .slice none 0 0, .slice none 0 0, .slice none 0 0, .slice none 0 0, .slice none 0 0, .slice none 0 0, .slice (some ⟨b, 0, none⟩) 3 3, .int .i64 0, .int .i64 0, .int .i64 0, .int .i64 0, .int .i64 0, .int .i64 0, .int .i64 0] : Array Value)[j]? = some u) => keepc hb2 ((HC7.out j).trans h))
  clear hb hA HS7 HB7 hb2 HR2 HR1' HC7 hz7
  go_wp2_with fail
  go_at_call 26
  have hA := (Below.refl w8.heap.size w8).alloc (Nat.le_refl _) (.cells #[.int .i64 1, .int .i64 5] 3)
  with_reducible refine (smYes [1, 5] _ _ _ (HR2'.out.bel hA) (two_reads w8 1 5 _ rfl)).mono ?_
  rintro e w9 ⟨rfl, hb⟩
  have hb2 := hA.trans (hb.mono hA.size)
  have HS9 := Lib.hid (HS8.out.bel hb2)
  have HB := Lib.hid (HB8.out.trans (hb2.mono HB8.out.size))
  have HC9 := Lib.hid (fun j u (h : (#[.string ⟨#[97]⟩, .slice none 0 0, .slice none 0 0, .slice none 0 0, .slice none 0 0, .slice none 0 0, .slice none 0 0, .slice none 0 0, .slice (some ⟨b, 0, none⟩) 3 3, .int .i64 0, .int .i64 0, .int .i64 0, .int .i64 0, .int .i64 0, .int .i64 0, .int .i64 0] : Array Value)[j]? = some u) => keepc hb2 (HC8.out j u h))
  clear hb hA HS8 HB8 hb2 HR2' HC8
  have c0 := HC9.out 0 _ rfl
  have c1 := HC9.out 1 _ rfl
  have c2 := HC9.out 2 _ rfl
  have c3 := HC9.out 3 _ rfl
  have c4 := HC9.out 4 _ rfl
  have c5 := HC9.out 5 _ rfl
  have c6 := HC9.out 6 _ rfl
  have c7 := HC9.out 7 _ rfl
  have c8 := HC9.out 8 _ rfl
  have c9 := HC9.out 9 _ rfl
  have c10 := HC9.out 10 _ rfl
  have c11 := HC9.out 11 _ rfl
  have c12 := HC9.out 12 _ rfl
  have c13 := HC9.out 13 _ rfl
  have c14 := HC9.out 14 _ rfl
  have c15 := HC9.out 15 _ rfl
  go_wp2_with (first
    | (go_at_call 12; (with_reducible refine (cYes HS9.out).mono ?_); rintro e w10 ⟨rfl, hb⟩; have HB2 := Lib.hid (HB.out.trans (hb.mono HB.out.size)); clear hb HB; have HB := HB2; clear HB2)
    | (go_at_call 12; (with_reducible refine (cNo _).mono ?_); rintro e w11 ⟨rfl, hb⟩; have HB2 := Lib.hid (HB.out.trans (hb.mono HB.out.size)); clear hb HB; have HB := HB2; clear HB2)
    | (go_at_call 34; (with_reducible refine (atl_any 4 1 _).mono ?_); rintro e w12 ⟨rfl, hb⟩; have HB2 := Lib.hid (HB.out.trans (hb.mono HB.out.size)); clear hb HB; have HB := HB2; clear HB2)
    | (go_at_call 16; (with_reducible refine (cCA _).mono ?_); rintro e w13 ⟨rfl, hb⟩; have HB2 := Lib.hid (HB.out.trans (hb.mono HB.out.size)); clear hb HB; have HB := HB2; clear HB2)
    | (go_at_call 16; (with_reducible refine (cCB _).mono ?_); rintro e w14 ⟨rfl, hb⟩; have HB2 := Lib.hid (HB.out.trans (hb.mono HB.out.size)); clear hb HB; have HB := HB2; clear HB2)
    | (go_at_call 18; (with_reducible refine (cTN _).mono ?_); rintro e w15 ⟨rfl, hb⟩; have HB2 := Lib.hid (HB.out.trans (hb.mono HB.out.size)); clear hb HB; have HB := HB2; clear HB2)
    | (go_at_call 20; (with_reducible refine (cEB _).mono ?_); rintro e w16 ⟨rfl, hb⟩; have HB2 := Lib.hid (HB.out.trans (hb.mono HB.out.size)); clear hb HB; have HB := HB2; clear HB2))
  go_ret
  exact ⟨rfl, HB.out⟩
end Go.Proofs.YtabdgnigmlpeaaaGreatDoor
