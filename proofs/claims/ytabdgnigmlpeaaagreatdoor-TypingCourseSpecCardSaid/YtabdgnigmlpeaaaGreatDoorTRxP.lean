/- The specification: named. -/
import Derived.Test.YtabdgnigmlpeaaaGreatDoorTXN
import Derived.Test.YtabdgnigmlpeaaaGreatDoorTXE
namespace Go.Proofs.YtabdgnigmlpeaaaGreatDoor
open Go.RowKit

set_option maxHeartbeats 32000000 in
set_option maxRecDepth 100000 in
theorem rnamed_any {w : World} {Q : Nat → Prop} {c : Crs} {x : CLoc} (h : CourseIn w Q c x) (hl : limE c = true) (W : World) (hW : Below w.heap.size w W) :
    Calls Tryz.prog 42 #[courseV c x] W fun e w' => e = .returned (.bool (namesE c)) ∧ Below W.heap.size W w' := by
  unfold limE at hl
  simp only [Bool.and_eq_true, decide_eq_true_eq] at hl
  obtain ⟨l1, -, l3, l4, l5, l6, -, -⟩ := hl
  have hA := (Below.refl W.heap.size W).alloc (Nat.le_refl _) (.cells (cellsC c x).toArray 33)
  obtain ⟨L1, hL1⟩ : ∃ L, (c.mats.map fun z => z.n) = L := ⟨_, rfl⟩
  have hl1 : c.mats.length = L1.length := by rw [← hL1, List.length_map]
  obtain ⟨b1, off1, hb1, hc1⟩ := h.mats
  have HE1 : Hid (∀ w', Below W.heap.size W w' → ∀ j (h : j < L1.length), x.pm = some ⟨b1, off1, none⟩ ∧ w'.cell? ⟨b1, off1 + j * 2, none⟩ = some (.string L1[j])) := Lib.hid fun w' hb j hj => by
    have hbb := hW.trans (hb.mono hW.size)
    have hj2 : j < c.mats.length := by omega
    have he : L1[j] = c.mats[j].n := by subst hL1; simp
    exact ⟨(hb1.hb (by omega)).1, by rw [he]; exact keepc hbb (hc1 j hj2 0 _ rfl)⟩
  obtain ⟨L3, hL3⟩ : ∃ L, (c.dists.map fun z => z.n) = L := ⟨_, rfl⟩
  have hl3 : c.dists.length = L3.length := by rw [← hL3, List.length_map]
  obtain ⟨es, hes, ⟨b3, off3, hb3, hc3⟩, -⟩ := h.dists
  have hle : es.length = L3.length := by rw [← hl3, ← hes, List.length_map]
  have HE3 : Hid (∀ w', Below W.heap.size W w' → ∀ j (h : j < L3.length), x.pd = some ⟨b3, off3, none⟩ ∧ w'.cell? ⟨b3, off3 + j * 5, none⟩ = some (.string L3[j])) := Lib.hid fun w' hb j hj => by
    have hbb := hW.trans (hb.mono hW.size)
    have hj2 : j < es.length := by omega
    have he : L3[j] = es[j].1.n := by subst hL3; simp [← hes]
    exact ⟨(hb3.hb (by omega)).1, by rw [he]; exact keepc hbb (hc3 j hj2 0 _ rfl)⟩
  obtain ⟨L4, hL4⟩ : ∃ L, (c.waves.map fun z => z.n) = L := ⟨_, rfl⟩
  have hl4 : c.waves.length = L4.length := by rw [← hL4, List.length_map]
  obtain ⟨b4, off4, hb4, hc4⟩ := h.waves
  have HE4 : Hid (∀ w', Below W.heap.size W w' → ∀ j (h : j < L4.length), x.pw = some ⟨b4, off4, none⟩ ∧ w'.cell? ⟨b4, off4 + j * 2, none⟩ = some (.string L4[j])) := Lib.hid fun w' hb j hj => by
    have hbb := hW.trans (hb.mono hW.size)
    have hj2 : j < c.waves.length := by omega
    have he : L4[j] = c.waves[j].n := by subst hL4; simp
    exact ⟨(hb4.hb (by omega)).1, by rw [he]; exact keepc hbb (hc4 j hj2 0 _ rfl)⟩
  obtain ⟨L5, hL5⟩ : ∃ L, (c.offs.map fun z => z.n) = L := ⟨_, rfl⟩
  have hl5 : c.offs.length = L5.length := by rw [← hL5, List.length_map]
  obtain ⟨b5, off5, hb5, hc5⟩ := h.offs
  have HE5 : Hid (∀ w', Below W.heap.size W w' → ∀ j (h : j < L5.length), x.po = some ⟨b5, off5, none⟩ ∧ w'.cell? ⟨b5, off5 + j * 4, none⟩ = some (.string L5[j])) := Lib.hid fun w' hb j hj => by
    have hbb := hW.trans (hb.mono hW.size)
    have hj2 : j < c.offs.length := by omega
    have he : L5[j] = c.offs[j].n := by subst hL5; simp
    exact ⟨(hb5.hb (by omega)).1, by rw [he]; exact keepc hbb (hc5 j hj2 0 _ rfl)⟩
  obtain ⟨L6, hL6⟩ : ∃ L, (c.cats.map fun z => z.n) = L := ⟨_, rfl⟩
  have hl6 : c.cats.length = L6.length := by rw [← hL6, List.length_map]
  obtain ⟨b6, off6, hb6, hc6⟩ := h.cats
  have HE6 : Hid (∀ w', Below W.heap.size W w' → ∀ j (h : j < L6.length), x.pc = some ⟨b6, off6, none⟩ ∧ w'.cell? ⟨b6, off6 + j * 3, none⟩ = some (.string L6[j])) := Lib.hid fun w' hb j hj => by
    have hbb := hW.trans (hb.mono hW.size)
    have hj2 : j < c.cats.length := by omega
    have he : L6[j] = c.cats[j].n := by subst hL6; simp
    exact ⟨(hb6.hb (by omega)).1, by rw [he]; exact keepc hbb (hc6 j hj2 0 _ rfl)⟩
  obtain ⟨T, hT⟩ : ∃ T, namesE c = T := ⟨_, rfl⟩
  rw [hT]
  have HT : Hid (T = (nameE c.n.data.toList && (namesOk (L1.map fun s => s.data.toList) && (namesOk (L3.map fun s => s.data.toList) && (namesOk (L4.map fun s => s.data.toList) && (namesOk (L5.map fun s => s.data.toList) && namesOk (L6.map fun s => s.data.toList))))))) := Lib.hid (by
    rw [← hT, ← hL1, ← hL3, ← hL4, ← hL5, ← hL6]
    simp only [List.map_map]
    rfl)
  have N0 : Hid (∀ W, Calls Tryz.prog 95 #[.string c.n] W fun e w' => e = .returned (.bool (nameE c.n.data.toList)) ∧ Below W.heap.size W w') := Lib.hid fun W => by
    have := rname_any c.n.data.toList W
    rwa [S_eta] at this
  have HF : Hid (∀ w', Below (W.alloc (.cells (cellsC c x).toArray 33)).heap.size (W.alloc (.cells (cellsC c x).toArray 33)) w' → w'.cell? ⟨W.heap.size, 0, none⟩ = some (.string c.n) ∧ w'.cell? ⟨W.heap.size, 1, none⟩ = some (.slice x.pm L1.length x.cm) ∧ w'.cell? ⟨W.heap.size, 3, none⟩ = some (.slice x.pd L3.length x.cd) ∧ w'.cell? ⟨W.heap.size, 4, none⟩ = some (.slice x.pw L4.length x.cw) ∧ w'.cell? ⟨W.heap.size, 5, none⟩ = some (.slice x.po L5.length x.co) ∧ w'.cell? ⟨W.heap.size, 6, none⟩ = some (.slice x.pc L6.length x.cc)) := Lib.hid fun w' hb => ⟨keepc hb (by simp [cellsC, go_sem]), keepc hb (by simp [cellsC, go_sem, hl1]), keepc hb (by simp [cellsC, go_sem, hl3]), keepc hb (by simp [cellsC, go_sem, hl4]), keepc hb (by simp [cellsC, go_sem, hl5]), keepc hb (by simp [cellsC, go_sem, hl6])⟩
  have HWW : Hid (∀ w', Below (W.alloc (.cells (cellsC c x).toArray 33)).heap.size (W.alloc (.cells (cellsC c x).toArray 33)) w' → Below W.heap.size W w') := Lib.hid fun w' hb => hA.trans (hb.mono hA.size)
  have hs1 : L1.length ≤ 1000 := by omega
  have hs3 : L3.length ≤ 1000 := by omega
  have hs4 : L4.length ≤ 1000 := by omega
  have hs5 : L5.length ≤ 1000 := by omega
  have hs6 : L6.length ≤ 1000 := by omega
  have g0 : (cellsC c x).toArray[0]? = some (.string c.n) := rfl
  have g1 : (cellsC c x).toArray[1]? = some (.slice x.pm L1.length x.cm) := by rw [← hl1]; rfl
  have g3 : (cellsC c x).toArray[3]? = some (.slice x.pd L3.length x.cd) := by rw [← hl3]; rfl
  have g4 : (cellsC c x).toArray[4]? = some (.slice x.pw L4.length x.cw) := by rw [← hl4]; rfl
  have g5 : (cellsC c x).toArray[5]? = some (.slice x.po L5.length x.co) := by rw [← hl5]; rfl
  have g6 : (cellsC c x).toArray[6]? = some (.slice x.pc L6.length x.cc) := by rw [← hl6]; rfl
  clear hT hA h hW hb1 hc1 hL1 hl1 hb3 hc3 hL3 hl3 hb4 hc4 hL4 hl4 hb5 hc5 hL5 hl5 hb6 hc6 hL6 hl6 hes hle l1 l3 l4 l5 l6
  unfold courseV at *
  generalize (cellsC c x).toArray = cs at *
  obtain ⟨pm, cm, pl, cl, pd, cd, pw, cw, po, co, pc, cc, pz, cz, pt, ct⟩ := x
  generalize c.n = cn at *
  clear c
  simp only at *
  go_enter Tryz.func42, Tryz.ntmps42
  go_wp2_with fail
  clear g0 g1 g3 g4 g5 g6
  obtain ⟨w1, hw1⟩ : ∃ w1, w1 = (W.alloc (.cells cs 33)) := ⟨_, rfl⟩
  have hk1 : W.heap.size + 1 = w1.heap.size := by rw [hw1]; simp
  rw [← hw1, hk1]
  have HQ1 : Hid (Below (W.alloc (.cells cs 33)).heap.size (W.alloc (.cells cs 33)) w1) := Lib.hid (by rw [hw1]; exact Below.refl _ _)
  clear hw1 hk1
  go_loopw [3, 4] (fun v i wr => ∃ (j : Nat) (M : List ByteArray) (q : Option Addr) (c : Nat), j ≤ L1.length ∧ i = .int .i64 j ∧ v = .slice q M.length c ∧ Hid (OwnT wr w1.heap.size (.slice q M.length c) M) ∧ Hid (M = L1.take j) ∧ Hid (Below w1.heap.size w1 wr)) (fun _ i _ => L1.length - (intOf i).toNat)
  case atStart => exact ⟨0, [], _, _, Nat.zero_le _, rfl, rfl, Lib.hid (own1T w1 _ _ rfl (Nat.le_refl _)), Lib.hid rfl, Lib.hid ((Below.refl _ w1).alloc (Nat.le_refl _) _)⟩
  case round =>
    obtain ⟨j, M, q, c, hj, rfl, rfl, HO, HM, HB⟩ := hrel
    have HQW := Lib.hid (HQ1.out.trans (HB.out.mono HQ1.out.size))
    obtain ⟨f0, f1, f3, f4, f5, f6⟩ := HF.out _ HQW.out
    by_cases hlt : j < L1.length
    · have hji : (j : Int) < (L1.length : Int) := by omega
      obtain ⟨rfl, a0⟩ := HE1.out _ (HWW.out _ HQW.out) j hlt
      have hMl : M.length ≤ 1000 := by rw [HM.out, List.length_take]; omega
      have HM2 : Hid (M ++ [L1[j]] = L1.take (j + 1)) := Lib.hid (by rw [HM.out, List.take_succ_eq_append_getElem hlt])
      have HSz := Lib.hid HB.out.size
      clear HE1
      generalize L1[j] = t at *
      go_wp2_with (refine wpList_pushT rfl _ _ rfl w1.heap.size _ M HO.out rfl t 1 _ (by simp) rfl (by omega) HSz.out ?_; intro g cap' w9 ho9 hg9; have HB9 := Lib.hid (HB.out.trans (HO.out.below hg9 HSz.out)); have HO9 := Lib.hid ho9; clear ho9 hg9)
      go_round
      case rel => exact ⟨j + 1, M ++ [t], _, _, by omega, by go_num, by rw [List.length_append]; rfl, by rw [List.length_append]; exact HO9, HM2, HB9⟩
      case measure => simp [intOf]; omega
    · have hji : ¬ (j : Int) < (L1.length : Int) := by omega
      obtain rfl : L1 = M := by
        have := HM.out
        rw [List.take_of_length_le (by omega)] at this
        exact this.symm
      clear HM HE1 f0 f1 f3 f4 f5 f6
      have HR1 := Lib.hid (HO.out.reads (by omega))
      obtain ⟨f0, f1, f3, f4, f5, f6⟩ := HF.out _ HQW.out
      clear HO HB HQ1
      obtain ⟨w2, rfl⟩ : ∃ u, u = wr := ⟨wr, rfl⟩
      obtain ⟨q1, rfl⟩ : ∃ u, u = q := ⟨q, rfl⟩
      obtain ⟨c1, rfl⟩ : ∃ u, u = c := ⟨c, rfl⟩
      go_wp2_with fail
      clear f0 f1 f3 f4 f5 f6
      have HQ2 := HQW
      clear HQW hji hlt hj
      go_loopw [5, 6] (fun v i wr => ∃ (j : Nat) (M : List ByteArray) (q : Option Addr) (c : Nat), j ≤ L3.length ∧ i = .int .i64 j ∧ v = .slice q M.length c ∧ Hid (OwnT wr w2.heap.size (.slice q M.length c) M) ∧ Hid (M = L3.take j) ∧ Hid (Below w2.heap.size w2 wr)) (fun _ i _ => L3.length - (intOf i).toNat)
      case atStart => exact ⟨0, [], _, _, Nat.zero_le _, rfl, rfl, Lib.hid (own1T w2 _ _ rfl (Nat.le_refl _)), Lib.hid rfl, Lib.hid ((Below.refl _ w2).alloc (Nat.le_refl _) _)⟩
      case round =>
        obtain ⟨j, M, q, c, hj, rfl, rfl, HO, HM, HB⟩ := hrel
        have HQW := Lib.hid (HQ2.out.trans (HB.out.mono HQ2.out.size))
        obtain ⟨f0, f1, f3, f4, f5, f6⟩ := HF.out _ HQW.out
        by_cases hlt : j < L3.length
        · have hji : (j : Int) < (L3.length : Int) := by omega
          obtain ⟨rfl, a0⟩ := HE3.out _ (HWW.out _ HQW.out) j hlt
          have hMl : M.length ≤ 1000 := by rw [HM.out, List.length_take]; omega
          have HM2 : Hid (M ++ [L3[j]] = L3.take (j + 1)) := Lib.hid (by rw [HM.out, List.take_succ_eq_append_getElem hlt])
          have HSz := Lib.hid HB.out.size
          clear HE3
          generalize L3[j] = t at *
          go_wp2_with (refine wpList_pushT rfl _ _ rfl w2.heap.size _ M HO.out rfl t 1 _ (by simp) rfl (by omega) HSz.out ?_; intro g cap' w9 ho9 hg9; have HB9 := Lib.hid (HB.out.trans (HO.out.below hg9 HSz.out)); have HO9 := Lib.hid ho9; clear ho9 hg9)
          go_round
          case rel => exact ⟨j + 1, M ++ [t], _, _, by omega, by go_num, by rw [List.length_append]; rfl, by rw [List.length_append]; exact HO9, HM2, HB9⟩
          case measure => simp [intOf]; omega
        · have hji : ¬ (j : Int) < (L3.length : Int) := by omega
          obtain rfl : L3 = M := by
            have := HM.out
            rw [List.take_of_length_le (by omega)] at this
            exact this.symm
          clear HM HE3 f0 f1 f3 f4 f5 f6
          have HR3 := Lib.hid (HO.out.reads (by omega))
          have HR1b := Lib.hid (HR1.out.bel HB.out)
          clear HR1
          have HR1 := HR1b
          clear HR1b
          obtain ⟨f0, f1, f3, f4, f5, f6⟩ := HF.out _ HQW.out
          clear HO HB HQ2
          obtain ⟨w3, rfl⟩ : ∃ u, u = wr := ⟨wr, rfl⟩
          obtain ⟨q3, rfl⟩ : ∃ u, u = q := ⟨q, rfl⟩
          obtain ⟨c3, rfl⟩ : ∃ u, u = c := ⟨c, rfl⟩
          go_wp2_with fail
          clear f0 f1 f3 f4 f5 f6
          have HQ3 := HQW
          clear HQW hji hlt hj
          go_loopw [7, 8] (fun v i wr => ∃ (j : Nat) (M : List ByteArray) (q : Option Addr) (c : Nat), j ≤ L4.length ∧ i = .int .i64 j ∧ v = .slice q M.length c ∧ Hid (OwnT wr w3.heap.size (.slice q M.length c) M) ∧ Hid (M = L4.take j) ∧ Hid (Below w3.heap.size w3 wr)) (fun _ i _ => L4.length - (intOf i).toNat)
          case atStart => exact ⟨0, [], _, _, Nat.zero_le _, rfl, rfl, Lib.hid (own1T w3 _ _ rfl (Nat.le_refl _)), Lib.hid rfl, Lib.hid ((Below.refl _ w3).alloc (Nat.le_refl _) _)⟩
          case round =>
            obtain ⟨j, M, q, c, hj, rfl, rfl, HO, HM, HB⟩ := hrel
            have HQW := Lib.hid (HQ3.out.trans (HB.out.mono HQ3.out.size))
            obtain ⟨f0, f1, f3, f4, f5, f6⟩ := HF.out _ HQW.out
            by_cases hlt : j < L4.length
            · have hji : (j : Int) < (L4.length : Int) := by omega
              obtain ⟨rfl, a0⟩ := HE4.out _ (HWW.out _ HQW.out) j hlt
              have hMl : M.length ≤ 1000 := by rw [HM.out, List.length_take]; omega
              have HM2 : Hid (M ++ [L4[j]] = L4.take (j + 1)) := Lib.hid (by rw [HM.out, List.take_succ_eq_append_getElem hlt])
              have HSz := Lib.hid HB.out.size
              clear HE4
              generalize L4[j] = t at *
              go_wp2_with (refine wpList_pushT rfl _ _ rfl w3.heap.size _ M HO.out rfl t 1 _ (by simp) rfl (by omega) HSz.out ?_; intro g cap' w9 ho9 hg9; have HB9 := Lib.hid (HB.out.trans (HO.out.below hg9 HSz.out)); have HO9 := Lib.hid ho9; clear ho9 hg9)
              go_round
              case rel => exact ⟨j + 1, M ++ [t], _, _, by omega, by go_num, by rw [List.length_append]; rfl, by rw [List.length_append]; exact HO9, HM2, HB9⟩
              case measure => simp [intOf]; omega
            · have hji : ¬ (j : Int) < (L4.length : Int) := by omega
              obtain rfl : L4 = M := by
                have := HM.out
                rw [List.take_of_length_le (by omega)] at this
                exact this.symm
              clear HM HE4 f0 f1 f3 f4 f5 f6
              have HR4 := Lib.hid (HO.out.reads (by omega))
              have HR1b := Lib.hid (HR1.out.bel HB.out)
              clear HR1
              have HR1 := HR1b
              clear HR1b
              have HR3b := Lib.hid (HR3.out.bel HB.out)
              clear HR3
              have HR3 := HR3b
              clear HR3b
              obtain ⟨f0, f1, f3, f4, f5, f6⟩ := HF.out _ HQW.out
              clear HO HB HQ3
              obtain ⟨w4, rfl⟩ : ∃ u, u = wr := ⟨wr, rfl⟩
              obtain ⟨q4, rfl⟩ : ∃ u, u = q := ⟨q, rfl⟩
              obtain ⟨c4, rfl⟩ : ∃ u, u = c := ⟨c, rfl⟩
              go_wp2_with fail
              clear f0 f1 f3 f4 f5 f6
              have HQ4 := HQW
              clear HQW hji hlt hj
              go_loopw [9, 10] (fun v i wr => ∃ (j : Nat) (M : List ByteArray) (q : Option Addr) (c : Nat), j ≤ L5.length ∧ i = .int .i64 j ∧ v = .slice q M.length c ∧ Hid (OwnT wr w4.heap.size (.slice q M.length c) M) ∧ Hid (M = L5.take j) ∧ Hid (Below w4.heap.size w4 wr)) (fun _ i _ => L5.length - (intOf i).toNat)
              case atStart => exact ⟨0, [], _, _, Nat.zero_le _, rfl, rfl, Lib.hid (own1T w4 _ _ rfl (Nat.le_refl _)), Lib.hid rfl, Lib.hid ((Below.refl _ w4).alloc (Nat.le_refl _) _)⟩
              case round =>
                obtain ⟨j, M, q, c, hj, rfl, rfl, HO, HM, HB⟩ := hrel
                have HQW := Lib.hid (HQ4.out.trans (HB.out.mono HQ4.out.size))
                obtain ⟨f0, f1, f3, f4, f5, f6⟩ := HF.out _ HQW.out
                by_cases hlt : j < L5.length
                · have hji : (j : Int) < (L5.length : Int) := by omega
                  obtain ⟨rfl, a0⟩ := HE5.out _ (HWW.out _ HQW.out) j hlt
                  have hMl : M.length ≤ 1000 := by rw [HM.out, List.length_take]; omega
                  have HM2 : Hid (M ++ [L5[j]] = L5.take (j + 1)) := Lib.hid (by rw [HM.out, List.take_succ_eq_append_getElem hlt])
                  have HSz := Lib.hid HB.out.size
                  clear HE5
                  generalize L5[j] = t at *
                  go_wp2_with (refine wpList_pushT rfl _ _ rfl w4.heap.size _ M HO.out rfl t 1 _ (by simp) rfl (by omega) HSz.out ?_; intro g cap' w9 ho9 hg9; have HB9 := Lib.hid (HB.out.trans (HO.out.below hg9 HSz.out)); have HO9 := Lib.hid ho9; clear ho9 hg9)
                  go_round
                  case rel => exact ⟨j + 1, M ++ [t], _, _, by omega, by go_num, by rw [List.length_append]; rfl, by rw [List.length_append]; exact HO9, HM2, HB9⟩
                  case measure => simp [intOf]; omega
                · have hji : ¬ (j : Int) < (L5.length : Int) := by omega
                  obtain rfl : L5 = M := by
                    have := HM.out
                    rw [List.take_of_length_le (by omega)] at this
                    exact this.symm
                  clear HM HE5 f0 f1 f3 f4 f5 f6
                  have HR5 := Lib.hid (HO.out.reads (by omega))
                  have HR1b := Lib.hid (HR1.out.bel HB.out)
                  clear HR1
                  have HR1 := HR1b
                  clear HR1b
                  have HR3b := Lib.hid (HR3.out.bel HB.out)
                  clear HR3
                  have HR3 := HR3b
                  clear HR3b
                  have HR4b := Lib.hid (HR4.out.bel HB.out)
                  clear HR4
                  have HR4 := HR4b
                  clear HR4b
                  obtain ⟨f0, f1, f3, f4, f5, f6⟩ := HF.out _ HQW.out
                  clear HO HB HQ4
                  obtain ⟨w5, rfl⟩ : ∃ u, u = wr := ⟨wr, rfl⟩
                  obtain ⟨q5, rfl⟩ : ∃ u, u = q := ⟨q, rfl⟩
                  obtain ⟨c5, rfl⟩ : ∃ u, u = c := ⟨c, rfl⟩
                  go_wp2_with fail
                  clear f0 f1 f3 f4 f5 f6
                  have HQ5 := HQW
                  clear HQW hji hlt hj
                  go_loopw [11, 12] (fun v i wr => ∃ (j : Nat) (M : List ByteArray) (q : Option Addr) (c : Nat), j ≤ L6.length ∧ i = .int .i64 j ∧ v = .slice q M.length c ∧ Hid (OwnT wr w5.heap.size (.slice q M.length c) M) ∧ Hid (M = L6.take j) ∧ Hid (Below w5.heap.size w5 wr)) (fun _ i _ => L6.length - (intOf i).toNat)
                  case atStart => exact ⟨0, [], _, _, Nat.zero_le _, rfl, rfl, Lib.hid (own1T w5 _ _ rfl (Nat.le_refl _)), Lib.hid rfl, Lib.hid ((Below.refl _ w5).alloc (Nat.le_refl _) _)⟩
                  case round =>
                    obtain ⟨j, M, q, c, hj, rfl, rfl, HO, HM, HB⟩ := hrel
                    have HQW := Lib.hid (HQ5.out.trans (HB.out.mono HQ5.out.size))
                    obtain ⟨f0, f1, f3, f4, f5, f6⟩ := HF.out _ HQW.out
                    by_cases hlt : j < L6.length
                    · have hji : (j : Int) < (L6.length : Int) := by omega
                      obtain ⟨rfl, a0⟩ := HE6.out _ (HWW.out _ HQW.out) j hlt
                      have hMl : M.length ≤ 1000 := by rw [HM.out, List.length_take]; omega
                      have HM2 : Hid (M ++ [L6[j]] = L6.take (j + 1)) := Lib.hid (by rw [HM.out, List.take_succ_eq_append_getElem hlt])
                      have HSz := Lib.hid HB.out.size
                      clear HE6
                      generalize L6[j] = t at *
                      go_wp2_with (refine wpList_pushT rfl _ _ rfl w5.heap.size _ M HO.out rfl t 1 _ (by simp) rfl (by omega) HSz.out ?_; intro g cap' w9 ho9 hg9; have HB9 := Lib.hid (HB.out.trans (HO.out.below hg9 HSz.out)); have HO9 := Lib.hid ho9; clear ho9 hg9)
                      go_round
                      case rel => exact ⟨j + 1, M ++ [t], _, _, by omega, by go_num, by rw [List.length_append]; rfl, by rw [List.length_append]; exact HO9, HM2, HB9⟩
                      case measure => simp [intOf]; omega
                    · have hji : ¬ (j : Int) < (L6.length : Int) := by omega
                      obtain rfl : L6 = M := by
                        have := HM.out
                        rw [List.take_of_length_le (by omega)] at this
                        exact this.symm
                      clear HM HE6 f0 f1 f3 f4 f5 f6
                      have HR6 := Lib.hid (HO.out.reads (by omega))
                      have HR1b := Lib.hid (HR1.out.bel HB.out)
                      clear HR1
                      have HR1 := HR1b
                      clear HR1b
                      have HR3b := Lib.hid (HR3.out.bel HB.out)
                      clear HR3
                      have HR3 := HR3b
                      clear HR3b
                      have HR4b := Lib.hid (HR4.out.bel HB.out)
                      clear HR4
                      have HR4 := HR4b
                      clear HR4b
                      have HR5b := Lib.hid (HR5.out.bel HB.out)
                      clear HR5
                      have HR5 := HR5b
                      clear HR5b
                      obtain ⟨f0, f1, f3, f4, f5, f6⟩ := HF.out _ HQW.out
                      clear HO HB HQ5
                      obtain ⟨w6, rfl⟩ : ∃ u, u = wr := ⟨wr, rfl⟩
                      obtain ⟨q6, rfl⟩ : ∃ u, u = q := ⟨q, rfl⟩
                      obtain ⟨c6, rfl⟩ : ∃ u, u = c := ⟨c, rfl⟩
                      have HD1 : Hid (∀ W', Below w6.heap.size w6 W' → Calls Tryz.prog 96 #[.slice q1 L1.length c1] W' fun e w' => e = .returned (.bool (namesOk (L1.map fun s => s.data.toList))) ∧ Below W'.heap.size W' w') := Lib.hid fun W' hb => rdiff_any L1 _ W' (HR1.out.bel hb)
                      have HD3 : Hid (∀ W', Below w6.heap.size w6 W' → Calls Tryz.prog 96 #[.slice q3 L3.length c3] W' fun e w' => e = .returned (.bool (namesOk (L3.map fun s => s.data.toList))) ∧ Below W'.heap.size W' w') := Lib.hid fun W' hb => rdiff_any L3 _ W' (HR3.out.bel hb)
                      have HD4 : Hid (∀ W', Below w6.heap.size w6 W' → Calls Tryz.prog 96 #[.slice q4 L4.length c4] W' fun e w' => e = .returned (.bool (namesOk (L4.map fun s => s.data.toList))) ∧ Below W'.heap.size W' w') := Lib.hid fun W' hb => rdiff_any L4 _ W' (HR4.out.bel hb)
                      have HD5 : Hid (∀ W', Below w6.heap.size w6 W' → Calls Tryz.prog 96 #[.slice q5 L5.length c5] W' fun e w' => e = .returned (.bool (namesOk (L5.map fun s => s.data.toList))) ∧ Below W'.heap.size W' w') := Lib.hid fun W' hb => rdiff_any L5 _ W' (HR5.out.bel hb)
                      have HD6 : Hid (∀ W', Below w6.heap.size w6 W' → Calls Tryz.prog 96 #[.slice q6 L6.length c6] W' fun e w' => e = .returned (.bool (namesOk (L6.map fun s => s.data.toList))) ∧ Below W'.heap.size W' w') := Lib.hid fun W' hb => rdiff_any L6 _ W' (HR6.out.bel hb)
                      have HV0 := Lib.hid (Below.refl w6.heap.size w6)
                      have HEnd : Hid (∀ W', Below w6.heap.size w6 W' → Below W.heap.size W W') := Lib.hid fun W' hb => HWW.out _ (HQW.out.trans (hb.mono HQW.out.size))
                      have hI := HT.out
                      clear HT HQW HF HWW f1 f3 f4 f5 HR1 HR3 HR4 HR5 HR6
                      generalize nameE cn.data.toList = q0 at *
                      generalize namesOk (L1.map fun s => s.data.toList) = r1 at *
                      generalize namesOk (L3.map fun s => s.data.toList) = r3 at *
                      generalize namesOk (L4.map fun s => s.data.toList) = r4 at *
                      generalize namesOk (L5.map fun s => s.data.toList) = r5 at *
                      generalize namesOk (L6.map fun s => s.data.toList) = r6 at *
                      cases q0 with
                      | false =>
                        have hT : T = false := by rw [hI]; rfl
                        subst hT
                        clear hI
                        go_wp2_with (first
                          | go_skip
                          | (go_at_call 95; (with_reducible refine (N0.out _).mono ?_); rintro e v1 ⟨rfl, hb⟩; have HV1 := Lib.hid (HV0.out.trans (hb.mono HV0.out.size)); clear hb))
                        go_ret
                        exact ⟨rfl, HEnd.out _ HV1.out⟩
                      | true =>
                        cases r1 with
                        | false =>
                          have hT : T = false := by rw [hI]; rfl
                          subst hT
                          clear hI
                          go_wp2_with (first
                            | go_skip
                            | (go_at_call 95; (with_reducible refine (N0.out _).mono ?_); rintro e v1 ⟨rfl, hb⟩; have HV1 := Lib.hid (HV0.out.trans (hb.mono HV0.out.size)); clear hb)
                            | (go_at_call 96; (with_reducible refine (HD1.out _ HV1.out).mono ?_); rintro e v2 ⟨rfl, hb⟩; have HV2 := Lib.hid (HV1.out.trans (hb.mono HV1.out.size)); clear hb))
                          go_ret
                          exact ⟨rfl, HEnd.out _ HV2.out⟩
                        | true =>
                          cases r3 with
                          | false =>
                            have hT : T = false := by rw [hI]; rfl
                            subst hT
                            clear hI
                            go_wp2_with (first
                              | go_skip
                              | (go_at_call 95; (with_reducible refine (N0.out _).mono ?_); rintro e v1 ⟨rfl, hb⟩; have HV1 := Lib.hid (HV0.out.trans (hb.mono HV0.out.size)); clear hb)
                              | (go_at_call 96; (with_reducible refine (HD1.out _ HV1.out).mono ?_); rintro e v2 ⟨rfl, hb⟩; have HV2 := Lib.hid (HV1.out.trans (hb.mono HV1.out.size)); clear hb)
                              | (go_at_call 96; (with_reducible refine (HD3.out _ HV2.out).mono ?_); rintro e v3 ⟨rfl, hb⟩; have HV3 := Lib.hid (HV2.out.trans (hb.mono HV2.out.size)); clear hb))
                            go_ret
                            exact ⟨rfl, HEnd.out _ HV3.out⟩
                          | true =>
                            cases r4 with
                            | false =>
                              have hT : T = false := by rw [hI]; rfl
                              subst hT
                              clear hI
                              go_wp2_with (first
                                | go_skip
                                | (go_at_call 95; (with_reducible refine (N0.out _).mono ?_); rintro e v1 ⟨rfl, hb⟩; have HV1 := Lib.hid (HV0.out.trans (hb.mono HV0.out.size)); clear hb)
                                | (go_at_call 96; (with_reducible refine (HD1.out _ HV1.out).mono ?_); rintro e v2 ⟨rfl, hb⟩; have HV2 := Lib.hid (HV1.out.trans (hb.mono HV1.out.size)); clear hb)
                                | (go_at_call 96; (with_reducible refine (HD3.out _ HV2.out).mono ?_); rintro e v3 ⟨rfl, hb⟩; have HV3 := Lib.hid (HV2.out.trans (hb.mono HV2.out.size)); clear hb)
                                | (go_at_call 96; (with_reducible refine (HD4.out _ HV3.out).mono ?_); rintro e v4 ⟨rfl, hb⟩; have HV4 := Lib.hid (HV3.out.trans (hb.mono HV3.out.size)); clear hb))
                              go_ret
                              exact ⟨rfl, HEnd.out _ HV4.out⟩
                            | true =>
                              cases r5 with
                              | false =>
                                have hT : T = false := by rw [hI]; rfl
                                subst hT
                                clear hI
                                go_wp2_with (first
                                  | go_skip
                                  | (go_at_call 95; (with_reducible refine (N0.out _).mono ?_); rintro e v1 ⟨rfl, hb⟩; have HV1 := Lib.hid (HV0.out.trans (hb.mono HV0.out.size)); clear hb)
                                  | (go_at_call 96; (with_reducible refine (HD1.out _ HV1.out).mono ?_); rintro e v2 ⟨rfl, hb⟩; have HV2 := Lib.hid (HV1.out.trans (hb.mono HV1.out.size)); clear hb)
                                  | (go_at_call 96; (with_reducible refine (HD3.out _ HV2.out).mono ?_); rintro e v3 ⟨rfl, hb⟩; have HV3 := Lib.hid (HV2.out.trans (hb.mono HV2.out.size)); clear hb)
                                  | (go_at_call 96; (with_reducible refine (HD4.out _ HV3.out).mono ?_); rintro e v4 ⟨rfl, hb⟩; have HV4 := Lib.hid (HV3.out.trans (hb.mono HV3.out.size)); clear hb)
                                  | (go_at_call 96; (with_reducible refine (HD5.out _ HV4.out).mono ?_); rintro e v5 ⟨rfl, hb⟩; have HV5 := Lib.hid (HV4.out.trans (hb.mono HV4.out.size)); clear hb))
                                go_ret
                                exact ⟨rfl, HEnd.out _ HV5.out⟩
                              | true =>
                                have hT : T = r6 := by rw [hI]; rfl
                                subst hT
                                clear hI
                                go_wp2_with (first
                                  | go_skip
                                  | (go_at_call 95; (with_reducible refine (N0.out _).mono ?_); rintro e v1 ⟨rfl, hb⟩; have HV1 := Lib.hid (HV0.out.trans (hb.mono HV0.out.size)); clear hb)
                                  | (go_at_call 96; (with_reducible refine (HD1.out _ HV1.out).mono ?_); rintro e v2 ⟨rfl, hb⟩; have HV2 := Lib.hid (HV1.out.trans (hb.mono HV1.out.size)); clear hb)
                                  | (go_at_call 96; (with_reducible refine (HD3.out _ HV2.out).mono ?_); rintro e v3 ⟨rfl, hb⟩; have HV3 := Lib.hid (HV2.out.trans (hb.mono HV2.out.size)); clear hb)
                                  | (go_at_call 96; (with_reducible refine (HD4.out _ HV3.out).mono ?_); rintro e v4 ⟨rfl, hb⟩; have HV4 := Lib.hid (HV3.out.trans (hb.mono HV3.out.size)); clear hb)
                                  | (go_at_call 96; (with_reducible refine (HD5.out _ HV4.out).mono ?_); rintro e v5 ⟨rfl, hb⟩; have HV5 := Lib.hid (HV4.out.trans (hb.mono HV4.out.size)); clear hb)
                                  | (go_at_call 96; (with_reducible refine (HD6.out _ HV5.out).mono ?_); rintro e v6 ⟨rfl, hb⟩; have HV6 := Lib.hid (HV5.out.trans (hb.mono HV5.out.size)); clear hb))
                                go_ret
                                exact ⟨rfl, HEnd.out _ HV6.out⟩
end Go.Proofs.YtabdgnigmlpeaaaGreatDoor
