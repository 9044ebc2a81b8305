/- The examples hold: sane. -/
import Derived.Test.YtlcmedimgoaneaaGreatDoorKJoin0
import Derived.Test.YtlcmedimgoaneaaGreatDoorKSame
import Derived.Test.YtlcmedimgoaneaaGreatDoorKKey
import Derived.Test.YtlcmedimgoaneaaGreatDoorKTxt
import Derived.Lib.SlBytesConst
namespace Go.Proofs.YtlcmedimgoaneaaGreatDoor
open Go.RowKit

theorem BAt.new (w : World) (l : Bs) (fr : Nat × Nat) : BAt (w.alloc (.cells (l.map fun c => .int .u8 c.toNat).toArray 5 fr)) 0 (some ⟨w.heap.size, 0, none⟩) l :=
  ⟨fun _ => ⟨_, 0, rfl, Nat.zero_le _, by simp, fun i hi => by rw [World.cell?_alloc_mark]; simp [hi]⟩⟩
theorem below_step {w w1 : World} {o : Obj} (h : Below (w.alloc o).heap.size (w.alloc o) w1) : Below w.heap.size w w1 :=
  ((Below.refl w.heap.size w).alloc (Nat.le_refl _) o).trans (h.mono (by simp))

theorem TAt.new (w : World) (L : List Tok) (hl : L.length ≤ 4398046510976) (ht : ∀ x ∈ L, x.t.length ≤ 140737488351232) : TAt (w.alloc (.cells (flatT L).toArray 38)) 0 (some ⟨w.heap.size, 0, none⟩) L :=
  ⟨hl, ht, fun _ => ⟨_, 0, rfl, Nat.zero_le _, by simp, fun i hi => by
    obtain ⟨f0, f1, f2⟩ := flatT_get L i hi
    rw [Nat.zero_add]
    refine ⟨?_, ?_, ?_⟩ <;> (rw [cell_of_row _ _ _ _ _ (0, 0) (heap_alloc_new w _)]; simpa using by assumption)⟩⟩
theorem PAt.new (w : World) (L : List Nat) : PAt (w.alloc (.cells (flatP L).toArray 41)) 0 (some ⟨w.heap.size, 0, none⟩) L :=
  fun _ => ⟨_, 0, rfl, Nat.zero_le _, by simp, fun i hi => by
    obtain ⟨f0, f1⟩ := flatP_get L i hi
    rw [Nat.zero_add]
    refine ⟨?_, ?_⟩ <;> (rw [cell_of_row _ _ _ _ _ (0, 0) (heap_alloc_new w _)]; simpa using by assumption)⟩
theorem sTime1 (w : World) (hG : Gl w) : Calls Tryz.prog 22 #[.string ⟨#[49, 58, 48, 50, 58, 48, 51, 46, 53]⟩] w fun e w' => e = .returned (.tuple #[.int .i64 3723500000, .int .i64 0]) ∧ Below w.heap.size w w' := by
  have h := time_any [49, 58, 48, 50, 58, 48, 51, 46, 53] (by decide) w hG
  rw [show timeT [49, 58, 48, 50, 58, 48, 51, 46, 53] = 3723500000 by rfl, show timeE [49, 58, 48, 50, 58, 48, 51, 46, 53] = 0 by rfl] at h
  exact h
theorem sTime2 (w : World) (hG : Gl w) : Calls Tryz.prog 22 #[.string ⟨#[54, 50, 58, 48, 51, 46, 53, 48]⟩] w fun e w' => e = .returned (.tuple #[.int .i64 3723500000, .int .i64 0]) ∧ Below w.heap.size w w' := by
  have h := time_any [54, 50, 58, 48, 51, 46, 53, 48] (by decide) w hG
  rw [show timeT [54, 50, 58, 48, 51, 46, 53, 48] = 3723500000 by rfl, show timeE [54, 50, 58, 48, 51, 46, 53, 48] = 0 by rfl] at h
  exact h
theorem sTime3 (w : World) (hG : Gl w) : Calls Tryz.prog 22 #[.string ⟨#[49, 50]⟩] w fun e w' => e = .returned (.tuple #[.int .i64 0, .int .i64 50]) ∧ Below w.heap.size w w' := by
  have h := time_any [49, 50] (by decide) w hG
  rw [show timeT [49, 50] = 0 by rfl, show timeE [49, 50] = 50 by rfl] at h
  exact h
theorem ttx1 : ttx 5000 = [48, 58, 48, 48, 46, 48, 48, 53] := by
  simp [ttx, ttA, hm, frT, pad, Lib.decDigits, trimZ]
theorem sText1 (w : World) (hG : Gl w) : Calls Tryz.prog 24 #[.int .i64 5000] w fun e w' => e = .returned (.tuple #[.string ⟨#[48, 58, 48, 48, 46, 48, 48, 53]⟩, .int .i64 0]) ∧ Below w.heap.size w w' := by
  have h := timeText_any 5000 w hG
  rw [if_neg (by decide), ttx1] at h
  exact h
theorem ttx2 : ttx (-90000000) = [45, 49, 58, 51, 48] := by
  simp [ttx, ttA, hm, frT, pad, Lib.decDigits]
theorem sText2 (w : World) (hG : Gl w) : Calls Tryz.prog 24 #[.int .i64 (-90000000)] w fun e w' => e = .returned (.tuple #[.string ⟨#[45, 49, 58, 51, 48]⟩, .int .i64 0]) ∧ Below w.heap.size w w' := by
  have h := timeText_any (-90000000) w hG
  rw [if_neg (by decide), ttx2] at h
  exact h
theorem sKey1 (w : World) : Calls Tryz.prog 19 #[.string ⟨#[99, 111, 117, 114, 115, 101]⟩] w fun e w' => e = .returned (.bool true) ∧ w' = w := by
  have h := keyword_any [99, 111, 117, 114, 115, 101] w
  rw [show keywords.contains [99, 111, 117, 114, 115, 101] = true by decide] at h
  exact h
theorem sKey2 (w : World) : Calls Tryz.prog 19 #[.string ⟨#[67, 111, 117, 114, 115, 101]⟩] w fun e w' => e = .returned (.bool false) ∧ w' = w := by
  have h := keyword_any [67, 111, 117, 114, 115, 101] w
  rw [show keywords.contains [67, 111, 117, 114, 115, 101] = false by decide] at h
  exact h

set_option maxHeartbeats 4000000 in
set_option maxRecDepth 100000 in
theorem sane_any (w : World) (hG : Gl w) : Calls Tryz.prog 11 #[] w fun e w' => e = .returned (.bool true) ∧ Below w.heap.size w w' := by
  have HG := Lib.hid hG
  clear hG
  have HB0 := Lib.hid (Below.refl w.heap.size w)
  have kc := fun (w : World) (C : Array Value) (n c : Nat) => Lib.run_convert_bytes_const (P := Tryz.prog) w 22 5 C n c Tryz.underlying22 Tryz.underlying5
  go_enter Tryz.func11, Tryz.ntmps11
  go_wp2_with fail
  go_at_call 12
  refine (tokens_ok [48, 58, 51, 48, 46, 46, 45, 53] (by decide) _ (HG.out.bel' (HB0.out.alloc HB0.out.size _)) 0 _ _ (BAt.new _ _ _)).mono ?_
  rintro e w1 ⟨hb', v1, v2, rfl, ht, hp⟩
  rw [tk1] at ht hp
  obtain ⟨p1, c1, hv, hT, -, -, -⟩ := ht.reads (by decide) (by simp [Tk.tok])
  have hv : v1 = .slice p1 4 c1 := hv
  subst hv
  obtain ⟨q1, d1, hv, hP, -, -⟩ := hp.reads
  have hv : v2 = .slice q1 0 d1 := hv
  subst hv
  have hs' := below_step hb'
  have HT1 := Lib.hid hT
  have HP1 := Lib.hid hP
  have HB1 := Lib.hid (HB0.out.trans (hs'.mono HB0.out.size))
  clear hb' ht hp hT hP hs'
  go_wp2_with fail
  go_at_call 12
  refine (tokens_ok [48, 48, 55, 37, 36] (by decide) _ (HG.out.bel' (HB1.out.alloc HB1.out.size _)) 0 _ _ (BAt.new _ _ _)).mono ?_
  rintro e w2 ⟨hb', v1, v2, rfl, ht, hp⟩
  rw [tk2] at ht hp
  obtain ⟨p2, c2, hv, hT, -, -, -⟩ := ht.reads (by decide) (by simp [Tk.tok])
  have hv : v1 = .slice p2 1 c2 := hv
  subst hv
  obtain ⟨q2, d2, hv, hP, -, -⟩ := hp.reads
  have hv : v2 = .slice q2 1 d2 := hv
  subst hv
  have hs' := below_step hb'
  have HT2 := Lib.hid hT
  have HP2 := Lib.hid hP
  have HT1 := Lib.hid (HT1.out.bel hs' (Nat.le_refl _))
  have HP1 := Lib.hid (HP1.out.bel hs' (Nat.le_refl _))
  have HB2 := Lib.hid (HB1.out.trans (hs'.mono HB1.out.size))
  clear hb' ht hp hT hP hs'
  go_wp2_with fail
  go_at_call 12
  refine (tokens_ok [34, 97, 92, 34, 98, 34] (by decide) _ (HG.out.bel' (HB2.out.alloc HB2.out.size _)) 0 _ _ (BAt.new _ _ _)).mono ?_
  rintro e w3 ⟨hb', v1, v2, rfl, ht, hp⟩
  rw [tk3] at ht hp
  obtain ⟨p3, c3, hv, hT, -, -, -⟩ := ht.reads (by decide) (by simp [Tk.tok])
  have hv : v1 = .slice p3 2 c3 := hv
  subst hv
  obtain ⟨q3, d3, hv, hP, -, -⟩ := hp.reads
  have hv : v2 = .slice q3 0 d3 := hv
  subst hv
  have hs' := below_step hb'
  have HT3 := Lib.hid hT
  have HP3 := Lib.hid hP
  have HT1 := Lib.hid (HT1.out.bel hs' (Nat.le_refl _))
  have HP1 := Lib.hid (HP1.out.bel hs' (Nat.le_refl _))
  have HT2 := Lib.hid (HT2.out.bel hs' (Nat.le_refl _))
  have HP2 := Lib.hid (HP2.out.bel hs' (Nat.le_refl _))
  have HB3 := Lib.hid (HB2.out.trans (hs'.mono HB2.out.size))
  clear hb' ht hp hT hP hs'
  go_wp2_with fail
  go_at_call 12
  refine (tokens_ok [34, 97] (by decide) _ (HG.out.bel' (HB3.out.alloc HB3.out.size _)) 0 _ _ (BAt.new _ _ _)).mono ?_
  rintro e w4 ⟨hb', v1, v2, rfl, ht, hp⟩
  rw [tk4] at ht hp
  obtain ⟨p4, c4, hv, hT, -, -, -⟩ := ht.reads (by decide) (by simp [Tk.tok])
  have hv : v1 = .slice p4 2 c4 := hv
  subst hv
  obtain ⟨q4, d4, hv, hP, -, -⟩ := hp.reads
  have hv : v2 = .slice q4 1 d4 := hv
  subst hv
  have hs' := below_step hb'
  have HT4 := Lib.hid hT
  have HP4 := Lib.hid hP
  have HT1 := Lib.hid (HT1.out.bel hs' (Nat.le_refl _))
  have HP1 := Lib.hid (HP1.out.bel hs' (Nat.le_refl _))
  have HT2 := Lib.hid (HT2.out.bel hs' (Nat.le_refl _))
  have HP2 := Lib.hid (HP2.out.bel hs' (Nat.le_refl _))
  have HT3 := Lib.hid (HT3.out.bel hs' (Nat.le_refl _))
  have HP3 := Lib.hid (HP3.out.bel hs' (Nat.le_refl _))
  have HB4 := Lib.hid (HB3.out.trans (hs'.mono HB3.out.size))
  clear hb' ht hp hT hP hs'
  go_wp2_with fail
  go_at_call 17
  refine (joinEnd_any _ _ (by simp [go_sem]) (by simp [go_sem])).mono ?_
  rintro e w5 ⟨rfl, hb'⟩
  have hs' := below_step hb'
  have HT1 := Lib.hid (HT1.out.bel hs' (Nat.le_refl _))
  have HP1 := Lib.hid (HP1.out.bel hs' (Nat.le_refl _))
  have HT2 := Lib.hid (HT2.out.bel hs' (Nat.le_refl _))
  have HP2 := Lib.hid (HP2.out.bel hs' (Nat.le_refl _))
  have HT3 := Lib.hid (HT3.out.bel hs' (Nat.le_refl _))
  have HP3 := Lib.hid (HP3.out.bel hs' (Nat.le_refl _))
  have HT4 := Lib.hid (HT4.out.bel hs' (Nat.le_refl _))
  have HP4 := Lib.hid (HP4.out.bel hs' (Nat.le_refl _))
  have HB5 := Lib.hid (HB4.out.trans (hs'.mono HB4.out.size))
  clear hb' hs'
  go_wp2_with fail
  go_at_call 17
  refine (joinNil_any _).mono ?_
  rintro e w6 ⟨rfl, hb'⟩
  have HT1 := Lib.hid (HT1.out.bel hb' (Nat.le_refl _))
  have HP1 := Lib.hid (HP1.out.bel hb' (Nat.le_refl _))
  have HT2 := Lib.hid (HT2.out.bel hb' (Nat.le_refl _))
  have HP2 := Lib.hid (HP2.out.bel hb' (Nat.le_refl _))
  have HT3 := Lib.hid (HT3.out.bel hb' (Nat.le_refl _))
  have HP3 := Lib.hid (HP3.out.bel hb' (Nat.le_refl _))
  have HT4 := Lib.hid (HT4.out.bel hb' (Nat.le_refl _))
  have HP4 := Lib.hid (HP4.out.bel hb' (Nat.le_refl _))
  have HB6 := Lib.hid (HB5.out.trans (hb'.mono HB5.out.size))
  clear hb'
  go_wp2_with fail
  go_at_call 22
  refine (sTime1 _ (HG.out.bel' HB6.out)).mono ?_
  rintro e w7 ⟨rfl, hb'⟩
  have HT1 := Lib.hid (HT1.out.bel hb' (Nat.le_refl _))
  have HP1 := Lib.hid (HP1.out.bel hb' (Nat.le_refl _))
  have HT2 := Lib.hid (HT2.out.bel hb' (Nat.le_refl _))
  have HP2 := Lib.hid (HP2.out.bel hb' (Nat.le_refl _))
  have HT3 := Lib.hid (HT3.out.bel hb' (Nat.le_refl _))
  have HP3 := Lib.hid (HP3.out.bel hb' (Nat.le_refl _))
  have HT4 := Lib.hid (HT4.out.bel hb' (Nat.le_refl _))
  have HP4 := Lib.hid (HP4.out.bel hb' (Nat.le_refl _))
  have HB7 := Lib.hid (HB6.out.trans (hb'.mono HB6.out.size))
  clear hb'
  go_wp2_with fail
  go_at_call 22
  refine (sTime2 _ (HG.out.bel' HB7.out)).mono ?_
  rintro e w8 ⟨rfl, hb'⟩
  have HT1 := Lib.hid (HT1.out.bel hb' (Nat.le_refl _))
  have HP1 := Lib.hid (HP1.out.bel hb' (Nat.le_refl _))
  have HT2 := Lib.hid (HT2.out.bel hb' (Nat.le_refl _))
  have HP2 := Lib.hid (HP2.out.bel hb' (Nat.le_refl _))
  have HT3 := Lib.hid (HT3.out.bel hb' (Nat.le_refl _))
  have HP3 := Lib.hid (HP3.out.bel hb' (Nat.le_refl _))
  have HT4 := Lib.hid (HT4.out.bel hb' (Nat.le_refl _))
  have HP4 := Lib.hid (HP4.out.bel hb' (Nat.le_refl _))
  have HB8 := Lib.hid (HB7.out.trans (hb'.mono HB7.out.size))
  clear hb'
  go_wp2_with fail
  go_at_call 22
  refine (sTime3 _ (HG.out.bel' HB8.out)).mono ?_
  rintro e w9 ⟨rfl, hb'⟩
  have HT1 := Lib.hid (HT1.out.bel hb' (Nat.le_refl _))
  have HP1 := Lib.hid (HP1.out.bel hb' (Nat.le_refl _))
  have HT2 := Lib.hid (HT2.out.bel hb' (Nat.le_refl _))
  have HP2 := Lib.hid (HP2.out.bel hb' (Nat.le_refl _))
  have HT3 := Lib.hid (HT3.out.bel hb' (Nat.le_refl _))
  have HP3 := Lib.hid (HP3.out.bel hb' (Nat.le_refl _))
  have HT4 := Lib.hid (HT4.out.bel hb' (Nat.le_refl _))
  have HP4 := Lib.hid (HP4.out.bel hb' (Nat.le_refl _))
  have HB9 := Lib.hid (HB8.out.trans (hb'.mono HB8.out.size))
  clear hb'
  go_wp2_with fail
  go_at_call 24
  refine (sText1 _ (HG.out.bel' HB9.out)).mono ?_
  rintro e w10 ⟨rfl, hb'⟩
  have HT1 := Lib.hid (HT1.out.bel hb' (Nat.le_refl _))
  have HP1 := Lib.hid (HP1.out.bel hb' (Nat.le_refl _))
  have HT2 := Lib.hid (HT2.out.bel hb' (Nat.le_refl _))
  have HP2 := Lib.hid (HP2.out.bel hb' (Nat.le_refl _))
  have HT3 := Lib.hid (HT3.out.bel hb' (Nat.le_refl _))
  have HP3 := Lib.hid (HP3.out.bel hb' (Nat.le_refl _))
  have HT4 := Lib.hid (HT4.out.bel hb' (Nat.le_refl _))
  have HP4 := Lib.hid (HP4.out.bel hb' (Nat.le_refl _))
  have HB10 := Lib.hid (HB9.out.trans (hb'.mono HB9.out.size))
  clear hb'
  go_wp2_with fail
  go_at_call 24
  refine (sText2 _ (HG.out.bel' HB10.out)).mono ?_
  rintro e w11 ⟨rfl, hb'⟩
  have HT1 := Lib.hid (HT1.out.bel hb' (Nat.le_refl _))
  have HP1 := Lib.hid (HP1.out.bel hb' (Nat.le_refl _))
  have HT2 := Lib.hid (HT2.out.bel hb' (Nat.le_refl _))
  have HP2 := Lib.hid (HP2.out.bel hb' (Nat.le_refl _))
  have HT3 := Lib.hid (HT3.out.bel hb' (Nat.le_refl _))
  have HP3 := Lib.hid (HP3.out.bel hb' (Nat.le_refl _))
  have HT4 := Lib.hid (HT4.out.bel hb' (Nat.le_refl _))
  have HP4 := Lib.hid (HP4.out.bel hb' (Nat.le_refl _))
  have HB11 := Lib.hid (HB10.out.trans (hb'.mono HB10.out.size))
  clear hb'
  go_wp2_with fail
  go_at_call 14
  refine (same_any p1 _ c1 4 [⟨3, [48, 58, 51, 48], 0⟩, ⟨5, [46, 46], 4⟩, ⟨2, [45, 53], 6⟩, ⟨6, [], 8⟩] [⟨3, [48, 58, 51, 48], 0⟩, ⟨5, [46, 46], 4⟩, ⟨2, [45, 53], 6⟩, ⟨6, [], 8⟩] _ _ 0 (HT1.out.bel ((Below.refl _ _).alloc (Nat.le_refl _) _) (Nat.le_refl _)) (TAt.new _ _ (by decide) (by simp))).mono ?_
  rintro e w12 ⟨he, hb'⟩
  rw [decide_eq_true rfl] at he
  subst he
  have hs' := below_step hb'
  have HT1 := Lib.hid (HT1.out.bel hs' (Nat.le_refl _))
  have HP1 := Lib.hid (HP1.out.bel hs' (Nat.le_refl _))
  have HT2 := Lib.hid (HT2.out.bel hs' (Nat.le_refl _))
  have HP2 := Lib.hid (HP2.out.bel hs' (Nat.le_refl _))
  have HT3 := Lib.hid (HT3.out.bel hs' (Nat.le_refl _))
  have HP3 := Lib.hid (HP3.out.bel hs' (Nat.le_refl _))
  have HT4 := Lib.hid (HT4.out.bel hs' (Nat.le_refl _))
  have HP4 := Lib.hid (HP4.out.bel hs' (Nat.le_refl _))
  have HB12 := Lib.hid (HB11.out.trans (hs'.mono HB11.out.size))
  clear hb' hs'
  obtain ⟨b3, o3, hp3, -, -, hc3⟩ := HT3.out.at' (by simp)
  have t3 := (hc3 0 (by decide)).2.1
  obtain ⟨b4, o4, hp4, -, -, hc4⟩ := HT4.out.at' (by simp)
  have a4 := (hc4 0 (by decide)).2.2
  dsimp only [List.map, List.getElem_cons_zero, Tk.tok, Nat.zero_mul, Nat.add_zero] at t3 a4
  clear hc3 hc4
  subst hp3 hp4
  have hS3 : Hid (S [97, 34, 98] = ⟨#[97, 34, 98]⟩) := Lib.hid rfl
  go_wp2_with fail
  go_at_call 15
  refine (sameP_any q2 _ d2 1 [0] [0] (by decide) (by decide) _ _ 0 (HP2.out.bel ((Below.refl _ _).alloc (Nat.le_refl _) _) (Nat.le_refl _)) (PAt.new _ [0])).mono ?_
  rintro e w13 ⟨he, hb'⟩
  rw [decide_eq_true rfl] at he
  subst he
  have hs' := below_step hb'
  have HT3 := Lib.hid (HT3.out.bel hs' (Nat.le_refl _))
  have HT4 := Lib.hid (HT4.out.bel hs' (Nat.le_refl _))
  have HB13 := Lib.hid (HB12.out.trans (hs'.mono HB12.out.size))
  clear hb' hs' t3 a4
  obtain ⟨b3', o3', hp3, -, -, hc3⟩ := HT3.out.at' (by simp)
  have t3 := (hc3 0 (by decide)).2.1
  obtain ⟨b4', o4', hp4, -, -, hc4⟩ := HT4.out.at' (by simp)
  have a4 := (hc4 0 (by decide)).2.2
  cases hp3
  cases hp4
  dsimp only [List.map, List.getElem_cons_zero, Tk.tok, Nat.zero_mul, Nat.add_zero] at t3 a4
  clear hc3 hc4
  rw [hS3.out] at t3
  go_wp2_with fail
  go_at_call 19
  refine (sKey1 _).mono ?_
  rintro e w14 ⟨rfl, rfl⟩
  go_wp2_with fail
  go_at_call 19
  refine (sKey2 _).mono ?_
  rintro e w15 ⟨rfl, rfl⟩
  go_wp2_with fail
  go_ret
  exact ⟨rfl, HB13.out⟩
end Go.Proofs.YtlcmedimgoaneaaGreatDoor
