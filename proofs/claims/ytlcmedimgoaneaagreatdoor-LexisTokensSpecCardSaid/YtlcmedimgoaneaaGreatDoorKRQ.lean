/- The specification's blank and Quoted. -/
import Derived.Test.YtlcmedimgoaneaaGreatDoorKRTok
import Derived.Test.YtlcmedimgoaneaaGreatDoorKApp
namespace Go.Proofs.YtlcmedimgoaneaaGreatDoor
open Go.RowKit

theorem byte_ne {c d : UInt8} (h : c ≠ d) (n : Int) (hn : (d.toNat : Int) = n) : ((c.toNat : Int) == n) = false := by
  rw [← hn]
  exact beq_eq_false_iff_ne.2 fun e => h (UInt8.toNat_inj.1 (by omega))
theorem byte_bne {c d : UInt8} (h : c ≠ d) (n : Int) (hn : (d.toNat : Int) = n) : ((c.toNat : Int) != n) = true := by rw [bne, byte_ne h n hn]; rfl

set_option maxHeartbeats 2000000 in
set_option maxRecDepth 100000 in
theorem blank_any (l : Bs) (hl : l.length ≤ 100000) (q : Nat) (hq : q ≤ l.length) (w : World) (B : Nat) (p : Option Addr) (cap : Nat) (hp : BAt w B p l) :
    Calls Tryz.prog 29 #[.slice p l.length cap, .int .i64 q] w fun e w' => e = .returned (.int .i64 (skq l q)) ∧ Below w.heap.size w w' := by
  have HP := Lib.hid hp
  clear hp
  obtain ⟨G, hG⟩ : ∃ G, skp false (l.drop q) = G := ⟨_, rfl⟩
  have HAT : Hid (∀ j, j ≤ l.length → G = l.drop j → skq l q = j) := Lib.hid fun j hj h => skq_at hj (hG.trans h)
  have HG0 := Lib.hid hG
  clear hG
  generalize skq l q = R at *
  go_enter Tryz.func29, Tryz.ntmps29
  go_wp2_with fail
  go_loopw [1] (fun v wr => ∃ j : Nat, j ≤ l.length ∧ v = .int .i64 j ∧ Hid (skp false (l.drop j) = G) ∧ Hid (Below w.heap.size w wr)) (fun v _ => l.length - (intOf v).toNat)
  case atStart => exact ⟨q, hq, rfl, HG0, Lib.hid (Below.refl _ _)⟩
  case round =>
    obtain ⟨j, hj, rfl, HS, HB⟩ := hrel
    clear HG0
    by_cases hlt : j < l.length
    · have hlti : (j : Int) < (l.length : Int) := by omega
      obtain ⟨rb, ro, rfl, -, -, hrc⟩ := (HP.out.bel HB.out (Nat.le_refl _)).at' (by intro h; rw [h] at hlt; simp at hlt)
      have y0 := hrc j hlt
      have HW := Lib.hid (skp_go hlt)
      have HST := Lib.hid (skp_stop hlt)
      have HH := Lib.hid (skp_hash hlt)
      have hcb := byte_le (l[j]'hlt)
      clear hrc
      have HJ : Hid (∀ i (h : i < l.length), i = j → l[i] = l[j]) := Lib.hid (by intro i h e; subst e; rfl)
      generalize l[j]'hlt = c at *
      by_cases h32 : c = 32
      · have e : (c.toNat : Int) = 32 := by rw [h32]; rfl
        have HS2 := Lib.hid ((HW.out (Or.inl h32)).trans HS.out)
        clear h32
        go_wp2_with fail
        go_roundw
        case rel => exact ⟨j + 1, by omega, by go_num, HS2, HB⟩
        case measure => simp [intOf]; omega
      have b32 := byte_ne h32 32 rfl
      by_cases h9 : c = 9
      · have e : (c.toNat : Int) = 9 := by rw [h9]; rfl
        have HS2 := Lib.hid ((HW.out (Or.inr (Or.inl h9))).trans HS.out)
        clear h32 h9
        go_wp2_with fail
        go_roundw
        case rel => exact ⟨j + 1, by omega, by go_num, HS2, HB⟩
        case measure => simp [intOf]; omega
      have b9 := byte_ne h9 9 rfl
      by_cases h10 : c = 10
      · have e : (c.toNat : Int) = 10 := by rw [h10]; rfl
        have HS2 := Lib.hid ((HW.out (Or.inr (Or.inr (Or.inl h10)))).trans HS.out)
        clear h32 h9 h10
        go_wp2_with fail
        go_roundw
        case rel => exact ⟨j + 1, by omega, by go_num, HS2, HB⟩
        case measure => simp [intOf]; omega
      have b10 := byte_ne h10 10 rfl
      by_cases h13 : c = 13
      · have e : (c.toNat : Int) = 13 := by rw [h13]; rfl
        have HS2 := Lib.hid ((HW.out (Or.inr (Or.inr (Or.inr h13)))).trans HS.out)
        clear h32 h9 h10 h13
        go_wp2_with fail
        go_roundw
        case rel => exact ⟨j + 1, by omega, by go_num, HS2, HB⟩
        case measure => simp [intOf]; omega
      have b13 := byte_ne h13 13 rfl
      by_cases h35 : c = 35
      · have e : (c.toNat : Int) = 35 := by rw [h35]; rfl
        have n35 : ((c.toNat : Int) != 35) = false := by rw [e]; rfl
        have HS2 := Lib.hid ((HH.out h35).trans HS.out)
        have HJ2 : Hid (∀ i (h : i < l.length), l[i] = 10 → i ≠ j) := Lib.hid (by
          intro i h e2 e3
          rw [HJ.out i h e3, h35] at e2
          exact absurd e2 (by decide))
        clear h32 h9 h10 h13 h35 e HW HST HH HJ
        go_wp2_with fail
        go_loopw [1] (fun v wx => ∃ i : Nat, j ≤ i ∧ i ≤ l.length ∧ v = .int .i64 i ∧ Hid (skp true (l.drop i) = G) ∧ Hid (Below w.heap.size w wx)) (fun v _ => l.length - (intOf v).toNat)
        case atStart => exact ⟨j, Nat.le_refl _, hj, rfl, HS2, HB⟩
        case round =>
          obtain ⟨i, hji, hi, rfl, HI, HBx⟩ := hrel
          clear y0 hcb b32 b9 b10 b13 n35
          by_cases hli : i < l.length
          · have hlii : (i : Int) < (l.length : Int) := by omega
            obtain ⟨rb', ro', hre, -, -, hrc⟩ := (HP.out.bel HBx.out (Nat.le_refl _)).at' (by intro h; rw [h] at hli; simp at hli)
            cases hre
            have y0 := hrc i hli
            have HIN := Lib.hid (skp_in hli)
            have HO := Lib.hid (skp_out hli)
            have HJ3 := Lib.hid (HJ2.out i hli)
            have hcb := byte_le (l[i]'hli)
            clear hrc
            generalize l[i]'hli = d at *
            by_cases h10 : d = 10
            · have e : (d.toNat : Int) = 10 := by rw [h10]; rfl
              have n10 : ((d.toNat : Int) != 10) = false := by rw [e]; rfl
              have HI2 := Lib.hid ((HO.out h10).trans HI.out)
              have hne := HJ3.out h10
              clear h10 e
              go_wp2_with fail
              go_roundw
              case rel => exact ⟨i, hi, rfl, HI2, HBx⟩
              case measure => simp [intOf]; omega
            · have n10 := byte_bne h10 10 rfl
              have HI2 := Lib.hid ((HIN.out h10).trans HI.out)
              clear h10
              go_wp2_with fail
              go_roundw
              case rel => exact ⟨i + 1, by omega, by omega, by go_num, HI2, HBx⟩
              case measure => simp [intOf]; omega
          · have hlii : ¬ (i : Int) < (l.length : Int) := by omega
            have he : i = l.length := by omega
            have HI2 : Hid (skp false (l.drop i) = G) := Lib.hid (by
              have := HI.out
              rw [he, skp_end] at this
              rw [he, skp_end, this])
            clear he
            go_wp2_with fail
            go_roundw
            case rel => exact ⟨i, hi, rfl, HI2, HBx⟩
            case measure => simp [intOf]; omega
      · have b35 := byte_bne h35 35 rfl
        have HE := Lib.hid (HAT.out j hj (HS.out.symm.trans (HST.out h32 h9 h10 h13 h35)))
        clear h32 h9 h10 h13 h35
        go_wp2_with fail
        go_ret
        rw [HE.out]
        exact ⟨rfl, HB.out⟩
    · have hlti : ¬ (j : Int) < (l.length : Int) := by omega
      have HE : Hid (R = j) := Lib.hid (HAT.out j hj (HS.out.symm.trans (by rw [List.drop_of_length_le (by omega)]; rfl)))
      go_wp2_with fail
      go_ret
      rw [HE.out]
      exact ⟨rfl, HB.out⟩

/-- What Quoted hands back. -/
def qR (l : Bs) : Bs × Nat := if l.head? = some 34 then (qt l).getD ([], 0) else ([], 0)
set_option maxHeartbeats 4000000 in
set_option maxRecDepth 100000 in
theorem quotedR_any (l : Bs) (hl : l.length ≤ 100000) (w : World) (B : Nat) (p : Option Addr) (cap : Nat) (hp : BAt w B p l) :
    Calls Tryz.prog 67 #[.slice p l.length cap] w fun e w' => e = .returned (.tuple #[.string (S (qR l).1), .int .i64 (qR l).2]) ∧ Below w.heap.size w w' := by
  by_cases h0 : l = []
  · subst h0
    have he : ((([] : Bs).length : Int) == 0) = true := rfl
    go_enter Tryz.func67, Tryz.ntmps67
    go_wp2_with fail
    go_ret2
    exact ⟨rfl, Below.refl _ _⟩
  have hpos : 0 < l.length := by
    cases l with
    | nil => exact absurd rfl h0
    | cons c t => simp
  have he : ((l.length : Int) == 0) = false := beq_eq_false_iff_ne.2 (by omega)
  obtain ⟨rb, ro, rfl, -, -, hrc⟩ := hp.at' h0
  have HP : Hid (∀ wx, Below w.heap.size w wx → ∀ i (h : i < l.length), wx.cell? ⟨rb, ro + i, none⟩ = some (.int .u8 l[i].toNat)) := Lib.hid fun wx hb i h => by
    obtain ⟨rb', ro', hre, -, -, hrc⟩ := (hp.bel hb (Nat.le_refl _)).at' h0
    cases hre
    exact hrc i h
  clear hp h0
  have y0 := hrc 0 hpos
  clear hrc
  rw [Nat.add_zero] at y0
  have hhd : l.head? = some l[0] := by
    cases l with
    | nil => simp at hpos
    | cons c t => rfl
  by_cases h34 : l[0] = 34
  · have HR : Hid ((∀ s n, qt l = some (s, n) → qR l = (s, n)) ∧ (qt l = none → qR l = ([], 0))) := Lib.hid (by
      unfold qR
      rw [if_pos (by rw [hhd, h34])]
      exact ⟨fun s n h => by rw [h]; rfl, fun h => by rw [h]; rfl⟩)
    have e34 : (l[0].toNat : Int) = 34 := by rw [h34]; rfl
    have n34 : ((l[0].toNat : Int) != 34) = false := by rw [e34]; rfl
    clear hhd h34
    generalize qR l = R at *
    obtain ⟨R1, R2⟩ := R
    have HE := Lib.hid (row_empty w)
    have HEB := Lib.hid ((Below.refl w.heap.size w).alloc (Nat.le_refl _) (.cells #[] 5))
    generalize l[0].toNat = c0 at *
    go_enter Tryz.func67, Tryz.ntmps67
    go_wp2_with fail
    go_loopw [4, 5] (fun v i wr => ∃ (j : Nat) (acc : Bs), 1 ≤ j ∧ j ≤ l.length ∧ acc.length ≤ j ∧ i = .int .i64 j ∧ Hid (Row wr w.heap.size v acc) ∧ Hid (QAt l j acc) ∧ Hid (Below w.heap.size w wr)) (fun _ i _ => l.length - (intOf i).toNat)
    case atStart => exact ⟨1, [], by omega, by omega, by simp, rfl, HE, Lib.hid (QAt.start l), HEB⟩
    case round =>
      obtain ⟨j, acc, hj1, hj, hacc, rfl, HRW, HQ, HB⟩ := hrel
      clear y0 e34 n34 HE HEB
      have hlo : ∀ o, w.heap.size ≤ (wr.alloc o).heap.size := fun o => by have := HB.out.size; simp; omega
      by_cases hlt : j < l.length
      · have hlti : (j : Int) < (l.length : Int) := by omega
        have y0 := HP.out _ HB.out j hlt
        have hcb := byte_le (l[j]'hlt)
        have HYES := Lib.hid (fun h => HR.out.1 _ _ (HQ.out.yes hlt h))
        have HNO := Lib.hid (fun h h2 => HR.out.2 (HQ.out.no hlt h h2))
        have HPL := Lib.hid (HQ.out.plain hlt)
        have HESC : Hid (∀ (h : j + 1 < l.length), l[j]'hlt = 92 → ∀ y, esc (l[j + 1]'h) = some y → QAt l (j + 2) (acc ++ [y])) := Lib.hid fun h a y b => HQ.out.esc h a b
        have HBAD := Lib.hid (chrR_bad hlt)
        have HLAST := Lib.hid (chrR_last hlt)
        have HNONE : Hid (∀ (h : j + 1 < l.length), l[j]'hlt = 92 → esc (l[j + 1]'h) = none → body (l.drop j) = ([], l.drop j)) := Lib.hid fun h a b => chrR_none h a b
        generalize l[j]'hlt = c at *
        by_cases h34 : c = 34
        · have e : (c.toNat : Int) = 34 := by rw [h34]; rfl
          have hRe := HYES.out h34
          obtain ⟨rfl, rfl⟩ := Prod.mk.inj hRe
          have HCV := Lib.hid (strRow HRW.out)
          have HCVd := Lib.hid (strRow (HRW.out.bel ((Below.refl wr.heap.size wr).drew) (Nat.le_refl _)))
          clear h34 hRe
          have hcv := HCV.out
          go_wp2_with fail
          go_ret2
          exact ⟨rfl, HB.out⟩
        have b34 := byte_ne h34 34 rfl
        by_cases hlo32 : c.toNat < 32
        · have hi32 : (c.toNat : Int) < 32 := by omega
          have hRe := HNO.out h34 (HBAD.out (Or.inl hlo32))
          obtain ⟨rfl, rfl⟩ := Prod.mk.inj hRe
          clear h34 hRe hlo32
          go_wp2_with fail
          go_ret2
          exact ⟨rfl, HB.out⟩
        have hi32 : ¬ (c.toNat : Int) < 32 := by omega
        by_cases hhi : 126 < c.toNat
        · have hi126 : (126 : Int) < (c.toNat : Int) := by omega
          have hRe := HNO.out h34 (HBAD.out (Or.inr hhi))
          obtain ⟨rfl, rfl⟩ := Prod.mk.inj hRe
          clear h34 hRe hlo32 hhi
          go_wp2_with fail
          go_ret2
          exact ⟨rfl, HB.out⟩
        have hi126 : ¬ (126 : Int) < (c.toNat : Int) := by omega
        by_cases h92 : c = 92
        · have e92 : (c.toNat : Int) = 92 := by rw [h92]; rfl
          have n92 : ((c.toNat : Int) != 92) = false := by rw [e92]; rfl
          by_cases hend : j + 1 = l.length
          · have hendi : (((j : Int) + 1) == (l.length : Int)) = true := by rw [← hend]; simp
            have hRe := HNO.out h34 (HLAST.out hend h92)
            obtain ⟨rfl, rfl⟩ := Prod.mk.inj hRe
            clear h34 hRe hlo32 hhi h92 hend
            go_wp2_with fail
            go_ret2
            exact ⟨rfl, HB.out⟩
          · have hlt2 : j + 1 < l.length := by omega
            have hendi : (((j : Int) + 1) == (l.length : Int)) = false := beq_eq_false_iff_ne.2 (by omega)
            have y1 := HP.out _ HB.out (j + 1) hlt2
            have hdb := byte_le (l[j + 1]'hlt2)
            have HESC := Lib.hid (HESC.out hlt2 h92)
            have HNO2 := Lib.hid (fun h => HNO.out h34 (HNONE.out hlt2 h92 h))
            clear HNO HPL HYES HBAD HLAST HNONE
            generalize l[j + 1]'hlt2 = d at *
            have HRA : Hid (∀ o, Row (wr.alloc o) w.heap.size _ acc) := Lib.hid fun o => HRW.out.bel ((Below.refl wr.heap.size wr).alloc (Nat.le_refl _) o) (Nat.le_refl _)
            clear h34 h92 hlo32 hhi hend
            by_cases d34 : d = 34
            · have e1 : (d.toNat : Int) = 34 := by rw [d34]; rfl
              have HQ2 := Lib.hid (HESC.out 34 (by rw [d34]; rfl))
              have H1 := Lib.hid (Row.one wr 34)
              have hn : acc.length + [(34 : UInt8)].length ≤ 10000000000000 := by rw [List.length_singleton]; omega
              clear d34
              go_wp2_with (refine wpList_appRow rfl _ _ rfl w.heap.size _ _ (HRA.out _) rfl _ _ _ H1.out rfl (by decide) hn (hlo _) ?_; intro v2 w2 hr2 hb2 hsz2)
              have HR2 := Lib.hid hr2
              have HB2 := Lib.hid ((HB.out.alloc HB.out.size _).trans hb2)
              go_round
              case rel => exact ⟨j + 2, acc ++ [34], by omega, by omega, by simp; omega, by go_num, HR2, HQ2, HB2⟩
              case measure => simp [intOf]; omega
            have c34 := byte_ne d34 34 rfl
            by_cases d92 : d = 92
            · have e1 : (d.toNat : Int) = 92 := by rw [d92]; rfl
              have HQ2 := Lib.hid (HESC.out 92 (by rw [d92]; rfl))
              have H1 := Lib.hid (Row.one wr 92)
              have hn : acc.length + [(92 : UInt8)].length ≤ 10000000000000 := by rw [List.length_singleton]; omega
              clear d34 d92
              go_wp2_with (refine wpList_appRow rfl _ _ rfl w.heap.size _ _ (HRA.out _) rfl _ _ _ H1.out rfl (by decide) hn (hlo _) ?_; intro v2 w2 hr2 hb2 hsz2)
              have HR2 := Lib.hid hr2
              have HB2 := Lib.hid ((HB.out.alloc HB.out.size _).trans hb2)
              go_round
              case rel => exact ⟨j + 2, acc ++ [92], by omega, by omega, by simp; omega, by go_num, HR2, HQ2, HB2⟩
              case measure => simp [intOf]; omega
            have c92 := byte_ne d92 92 rfl
            by_cases d110 : d = 110
            · have e1 : (d.toNat : Int) = 110 := by rw [d110]; rfl
              have HQ2 := Lib.hid (HESC.out 10 (by rw [d110]; rfl))
              have H1 := Lib.hid (Row.one wr 10)
              have hn : acc.length + [(10 : UInt8)].length ≤ 10000000000000 := by rw [List.length_singleton]; omega
              clear d34 d92 d110
              go_wp2_with (refine wpList_appRow rfl _ _ rfl w.heap.size _ _ (HRA.out _) rfl _ _ _ H1.out rfl (by decide) hn (hlo _) ?_; intro v2 w2 hr2 hb2 hsz2)
              have HR2 := Lib.hid hr2
              have HB2 := Lib.hid ((HB.out.alloc HB.out.size _).trans hb2)
              go_round
              case rel => exact ⟨j + 2, acc ++ [10], by omega, by omega, by simp; omega, by go_num, HR2, HQ2, HB2⟩
              case measure => simp [intOf]; omega
            have c110 := byte_ne d110 110 rfl
            have hRe := HNO2.out (by unfold esc; rw [if_neg d34, if_neg d92, if_neg d110])
            obtain ⟨rfl, rfl⟩ := Prod.mk.inj hRe
            clear d34 d92 d110 hRe
            go_wp2_with fail
            go_ret2
            exact ⟨rfl, HB.out⟩
        · have n92 := byte_bne h92 92 rfl
          have HQ2 := Lib.hid (HPL.out h34 h92 (by omega) (by omega))
          have HRA : Hid (∀ o, Row (wr.alloc o) w.heap.size _ acc) := Lib.hid fun o => HRW.out.bel ((Below.refl wr.heap.size wr).alloc (Nat.le_refl _) o) (Nat.le_refl _)
          have H1 := Lib.hid (Row.one wr c)
          have hn : acc.length + [c].length ≤ 10000000000000 := by rw [List.length_singleton]; omega
          clear h34 h92 hlo32 hhi
          go_wp2_with (refine wpList_appRow rfl _ _ rfl w.heap.size _ _ (HRA.out _) rfl _ _ _ H1.out rfl Nat.zero_lt_one hn (hlo _) ?_; intro v2 w2 hr2 hb2 hsz2)
          have HR2 := Lib.hid hr2
          have HB2 := Lib.hid ((HB.out.alloc HB.out.size _).trans hb2)
          go_round
          case rel => exact ⟨j + 1, acc ++ [c], by omega, by omega, by simp; omega, by go_num, HR2, HQ2, HB2⟩
          case measure => simp [intOf]; omega
      · have hlti : ¬ (j : Int) < (l.length : Int) := by omega
        have hRe := HR.out.2 (QAt.end_ (acc := acc) (by have := HQ.out; rwa [show j = l.length by omega] at this))
        obtain ⟨rfl, rfl⟩ := Prod.mk.inj hRe
        clear hRe
        go_wp2_with fail
        go_ret2
        exact ⟨rfl, HB.out⟩
  · have HR : Hid (qR l = ([], 0)) := Lib.hid (by
      unfold qR
      rw [if_neg (by rw [hhd]; simpa using h34)])
    have n34 := byte_bne h34 34 rfl
    clear hhd h34
    generalize qR l = R at *
    obtain ⟨R1, R2⟩ := R
    obtain ⟨rfl, rfl⟩ := Prod.mk.inj HR.out
    generalize l[0].toNat = c0 at *
    go_enter Tryz.func67, Tryz.ntmps67
    go_wp2_with fail
    go_ret2
    exact ⟨rfl, Below.refl _ _⟩
end Go.Proofs.YtlcmedimgoaneaaGreatDoor
