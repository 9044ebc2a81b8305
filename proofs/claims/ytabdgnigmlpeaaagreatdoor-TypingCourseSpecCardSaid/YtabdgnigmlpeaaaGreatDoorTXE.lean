/- Expanded routes. -/
import Derived.Test.YtabdgnigmlpeaaaGreatDoorTXR
import Derived.Test.YtabdgnigmlpeaaaGreatDoorTXA
import Derived.Deep.MidRow
import Derived.Deep.WholeRow
namespace Go.Proofs.YtabdgnigmlpeaaaGreatDoor
open Go.RowKit

/-- So many laps, but none more once the route is too long. -/
def lapsI (f : List Int → List Int) : Nat → List Int → List Int
  | 0, r => r
  | n + 1, r => if r.length ≤ 256 then lapsI f n (f r) else r
mutual
def exP : Pt → List Int → List Int
  | .mk a l ps, r => lapsI (exPs ps) l.toNat (if l = 0 then r ++ [a] else r)
def exPs : List Pt → List Int → List Int
  | [], r => r
  | p :: l, r => exPs l (exP p r)
end
theorem lapsI_len (f : List Int → List Int) (m : Nat) (hf : ∀ r, (f r).length ≤ max r.length 256 + m) : ∀ (n : Nat) (r : List Int), (lapsI f n r).length ≤ max r.length (256 + m)
  | 0, r => by rw [lapsI]; omega
  | n + 1, r => by
    rw [lapsI]
    split
    · have h1 := lapsI_len f m hf n (f r)
      have h2 := hf r
      omega
    · omega
mutual
theorem exP_len : ∀ (p : Pt) (r : List Int), (exP p r).length ≤ max r.length 256 + szC (toCd p)
  | .mk a l ps, r => by
    rw [exP, toCd, szC]
    by_cases hl : l = 0
    · subst hl
      rw [if_pos rfl]
      show (lapsI (exPs ps) 0 (r ++ [a])).length ≤ _
      rw [lapsI, List.length_append]
      simp only [List.length_cons, List.length_nil]
      omega
    · rw [if_neg hl]
      have := lapsI_len (exPs ps) (szCs (toCds ps)) (exPs_len ps) l.toNat r
      omega
theorem exPs_len : ∀ (l : List Pt) (r : List Int), (exPs l r).length ≤ max r.length 256 + szCs (toCds l)
  | [], r => by rw [exPs, toCds, szCs]; omega
  | p :: l, r => by
    rw [exPs, toCds, szCs]
    have h1 := exP_len p r
    have h2 := exPs_len l (exP p r)
    omega
end
theorem exP_eq (p : Pt) (r : List Int) : exP p r = lapsI (exPs p.ps) p.l.toNat (if p.l = 0 then r ++ [p.m] else r) := by
  obtain ⟨a, l, ps⟩ := p
  rw [exP]; rfl
theorem szC_toCd (p : Pt) : szC (toCd p) = 1 + szCs (toCds p.ps) := by
  obtain ⟨a, l, ps⟩ := p
  rw [toCd, szC]; rfl
theorem ASt.below {W wr : World} {B : Nat} {o : Option Nat} {v : Value} {L : List Int} (h : ASt W wr B o v L) (ho : ∀ k, o = some k → B ≤ k) (hB : B ≤ W.heap.size) : Below B W wr :=
  ⟨h.gr.os, h.gr.tape, h.gr.output, h.gr.size, fun k hk => h.gr.block k (by omega) fun e => by have := ho k e.symm; omega⟩
/-- expanded, of the parts ps: what it comes to. -/
def ExAt (m : Nat) (Q : Nat → Prop) (ps : List Pt) (p : Option Addr) (cap : Nat) (w0 : World) : Prop :=
  ∀ (W : World) (B : Nat) (val : Value) (r : List Int), (∀ b, Q b → b < B) → B ≤ W.heap.size → Below B w0 W → OwnI W B val r → max r.length 256 + szCs (toCds ps) ≤ 900000 → ptsR m ps = true →
    Calls Tryz.prog 155 #[val, .slice p ps.length cap] W (AppR W B val (exPs ps r))
set_option maxHeartbeats 16000000 in
set_option maxRecDepth 100000 in
theorem expanded_any (m : Nat) {w0 : World} {Q : Nat → Prop} {c : Pt} {p : Option Addr} {cap : Nat} (h : PtIn w0 Q c p cap) : ExAt m Q c.ps p cap w0 := by
  induction h with
  | mk m0 l0 ps p cap b off P C hl hc hc2 hp hb hcell hsub ih =>
    show ExAt m Q ps p cap w0
    intro W B val r hQB hB hW hown hlen hok
    have hownlt := hown.lt
    have H0 : Hid (ASt W W B val.ownBlock val r) := Lib.hid ⟨hown, World.grownBy.refl _ _, .inl rfl⟩
    have HFm : Hid (∀ wr, W.grownBy wr val.ownBlock → ∀ i (h : i < ps.length), p = some ⟨b, off, none⟩ ∧ wr.cell? ⟨b, off + i * 3, none⟩ = some (.int .i64 ps[i].m) ∧ wr.cell? ⟨b, off + i * 3 + 1, none⟩ = some (.int .i64 ps[i].l) ∧ wr.cell? ⟨b, off + i * 3 + 2, none⟩ = some (.slice (P i) ps[i].ps.length (C i))) := Lib.hid fun wr hg i hi => by
      obtain ⟨h1, h2, h3⟩ := hb (by rintro rfl; simp at hi)
      have hne : some b ≠ val.ownBlock := fun e => by have := (hownlt _ e.symm).1; have := hQB b h2; omega
      have hbl : W.heap[b]? = w0.heap[b]? := hW.block b (hQB b h2)
      obtain ⟨c0, c1, c2⟩ := hcell i hi
      have hh := fun o => World.cell?_of_block (a := ⟨b, o, none⟩) hbl
      exact ⟨h1, keepg hg hne ((hh _).trans c0), keepg hg hne ((hh _).trans c1), keepg hg hne ((hh _).trans c2)⟩
    have HIH : Hid (∀ i (h : i < ps.length), ExAt m Q ps[i].ps (P i) (C i) w0) := Lib.hid ih
    have HQB := Lib.hid hQB
    have HW := Lib.hid hW
    have HO := Lib.hid hownlt
    have HS : Hid (exPs (ps.drop 0) r = exPs ps r ∧ max r.length 256 + szCs (toCds (ps.drop 0)) ≤ 900000 ∧ ptsR m (ps.drop 0) = true) := Lib.hid (by rw [List.drop_zero]; exact ⟨rfl, hlen, hok⟩)
    obtain ⟨pv, cv, rfl⟩ := hown.shape
    obtain ⟨T, hT⟩ : ∃ T, exPs ps r = T := ⟨_, rfl⟩
    rw [hT] at HS ⊢
    obtain ⟨ob, hob⟩ : ∃ ob, (Value.slice pv r.length cv).ownBlock = ob := ⟨_, rfl⟩
    have HOB := Lib.hid hob
    rw [hob] at H0 HFm HO
    clear ih hsub hcell hb hQB hW hownlt hown hT hob hlen hok
    go_enter Tryz.func155, Tryz.ntmps155
    go_wp2_with fail
    go_loopw [0, 7, 10] (fun v k7 i wr => ∃ (j : Nat) (L : List Int) (q : Option Addr) (c : Nat), j ≤ ps.length ∧ i = .int .i64 j ∧ v = .slice q L.length c ∧ Hid (ASt W wr B ob (.slice q L.length c) L) ∧ Hid (exPs (ps.drop j) L = T ∧ max L.length 256 + szCs (toCds (ps.drop j)) ≤ 900000 ∧ ptsR m (ps.drop j) = true)) (fun _ _ i _ => ps.length - (intOf i).toNat)
    case atStart => exact ⟨0, r, pv, cv, Nat.zero_le _, rfl, rfl, H0, HS⟩
    case round =>
      obtain ⟨j, L, q, c, hj, rfl, rfl, HL, HI⟩ := hrel
      clear H0 HS
      by_cases hlt : j < ps.length
      · have hji : (j : Int) < (ps.length : Int) := by omega
        obtain ⟨rfl, c0, c1, c2⟩ := HFm.out wr HL.out.gr j hlt
        have hI := HI.out
        rw [(List.getElem_cons_drop hlt).symm, exPs, toCds, szCs, szC_toCd, ptsR, Bool.and_eq_true] at hI
        have hpt := hI.2.2.1
        have hEl := exP_len ps[j] L
        rw [szC_toCd] at hEl
        have HIj := Lib.hid (HIH.out j hlt)
        have HStep : Hid (exPs (ps.drop (j + 1)) (exP ps[j] L) = T ∧ max (exP ps[j] L).length 256 + szCs (toCds (ps.drop (j + 1))) ≤ 900000 ∧ ptsR m (ps.drop (j + 1)) = true) := Lib.hid ⟨hI.1, by omega, hI.2.2.2⟩
        have hszp : max L.length 256 + szCs (toCds ps[j].ps) ≤ 900000 := by omega
        clear hEl hI HI HIH HFm
        generalize ps[j] = pj at *
        generalize P j = Pj at *
        generalize C j = Cj at *
        obtain ⟨a, l, sub⟩ := pj
        rw [exP] at HStep
        rw [ptR] at hpt
        simp only [Pt.m, Pt.l, Pt.ps] at *
        have hA := (Below.refl wr.heap.size wr).alloc (Nat.le_refl _) (.cells #[.int .i64 a, .int .i64 l, .slice Pj sub.length Cj] 105)
        have hownr := HL.out.own.lt
        have hszw : B ≤ wr.heap.size := by have := HL.out.gr.size; omega
        have HOa := Lib.hid (HL.out.own.bel hA)
        have HAw := Lib.hid hA
        have HBx : Hid (∀ V, V = wr.alloc (.cells #[.int .i64 a, .int .i64 l, .slice Pj sub.length Cj] 105) → ∀ w' v' L', ASt V w' B (Value.slice q L.length c).ownBlock v' L' → w'.cell? ⟨wr.heap.size, 1, none⟩ = some (.int .i64 l) ∧ w'.cell? ⟨wr.heap.size, 2, none⟩ = some (.slice Pj sub.length Cj) ∧ Below B w0 w' ∧ B ≤ w'.heap.size) := Lib.hid fun V e w' v' L' hst => by
          subst e
          have hne : some wr.heap.size ≠ (Value.slice q L.length c).ownBlock := fun e => by have := (hownr _ e.symm).2; omega
          refine ⟨keepg hst.gr hne (by simp [go_sem]), keepg hst.gr hne (by simp [go_sem]), ?_, ?_⟩
          · have h1 := HL.out.below (fun k hk => (HO.out k hk).1) hB
            have h2 := hst.below (fun k hk => (hownr k hk).1) (Nat.le_trans hszw hA.size)
            exact ((HW.out.trans h1).trans (hA.mono hszw)).trans h2
          · have := hst.gr.size; have := hA.size; omega
        have hLl : L.length ≤ 1000000 := by omega
        have HF : Hid (∀ V, V = wr.alloc (.cells #[.int .i64 a, .int .i64 l, .slice Pj sub.length Cj] 105) → ∀ w' v' L', ASt V w' B (Value.slice q L.length c).ownBlock v' L' → ASt W w' B ob v' L') := Lib.hid fun V e w' v' L' hst => by
          subst e
          exact HL.out.step hA hst.own hst.gr hst.at'
        clear hA hownr
        by_cases hl0 : l = 0
        · clear hpt
          subst hl0
          rw [if_pos rfl] at HStep
          have hz : lapsI (exPs sub) (0 : Int).toNat (L ++ [a]) = L ++ [a] := rfl
          rw [hz] at HStep
          clear hz HIj
          go_wp2_with (refine wpList_pushI rfl _ _ rfl B _ L HOa.out rfl a 1 _ (by simp) rfl hLl (by simp <;> omega) ?_; intro g cap' w5 ho5 hg5 hat5; have HS5 := Lib.hid (ASt.mk ho5 hg5 (own_at hat5)); obtain ⟨b1, b2, -, -⟩ := HBx.out _ rfl _ _ _ HS5.out; clear ho5 hg5 hat5)
          go_loopw [0, 7] (fun v k7 wr2 => v = .slice (some ⟨g, 0, none⟩) (L.length + 1) cap' ∧ k7 = .int .i64 0 ∧ wr2 = w5) (fun _ _ _ => 0)
          case atStart => exact ⟨rfl, rfl, rfl⟩
          case round =>
            obtain ⟨rfl, rfl, rfl⟩ := hrel
            have HS6 := Lib.hid (HF.out _ rfl _ _ _ HS5.out)
            clear HF HBx HOa HAw HL
            go_wp2_with fail
            go_roundw
            case rel => exact ⟨j + 1, L ++ [a], _, _, by omega, by go_num, by rw [List.length_append]; rfl, by rw [List.length_append]; exact HS6, HStep⟩
            case measure => simp [intOf]; omega
        · rw [if_neg hl0] at HStep hpt
          simp only [Bool.and_eq_true] at hpt
          obtain ⟨hp1, -, -, hpok⟩ := hpt
          have hl64 : 1 ≤ l ∧ l ≤ 64 := by unfold inI at hp1; simpa using hp1
          obtain ⟨hl1, hl64⟩ := hl64
          clear hp1
          obtain ⟨N, hN⟩ : ∃ N, lapsI (exPs sub) l.toNat L = N := ⟨_, rfl⟩
          rw [hN] at HStep
          have hl2 : (l == 0) = false := by simpa using hl0
          have hlb : l.toNat - 0 = l.toNat := by omega
          have HI0 : Hid (lapsI (exPs sub) (l.toNat - 0) L = N) := Lib.hid (by rw [hlb]; exact hN)
          obtain ⟨o2, ho2⟩ : ∃ o2, (Value.slice q L.length c).ownBlock = o2 := ⟨_, rfl⟩
          have HS0 : Hid (∀ V, V = wr.alloc (.cells #[.int .i64 a, .int .i64 l, .slice Pj sub.length Cj] 105) → ASt V V B o2 (.slice q L.length c) L) := Lib.hid fun V e => by
            subst e
            exact ⟨HOa.out, World.grownBy.refl _ _, .inl ho2⟩
          rw [ho2] at HBx HF
          clear hN hlb ho2 hl0 HOa HAw HL
          go_wp2_with fail
          generalize hV : wr.alloc (.cells #[.int .i64 a, .int .i64 l, .slice Pj sub.length Cj] 105) = V at *
          have HBV := Lib.hid (HBx.out V rfl)
          have HFV := Lib.hid (HF.out V rfl)
          have HSV := Lib.hid (HS0.out V rfl)
          clear HBx HF HS0 hV
          go_loopw [0, 7] (fun v k7 wr2 => ∃ (k : Nat) (L' : List Int) (q' : Option Addr) (c' : Nat), k ≤ l.toNat ∧ k7 = .int .i64 k ∧ v = .slice q' L'.length c' ∧ Hid (ASt V wr2 B o2 (.slice q' L'.length c') L') ∧ Hid (lapsI (exPs sub) (l.toNat - k) L' = N)) (fun _ k7 _ => l.toNat - (intOf k7).toNat)
          case atStart => exact ⟨0, L, q, c, Nat.zero_le _, rfl, rfl, HSV, HI0⟩
          case round =>
            obtain ⟨k, L', q', c', hk, rfl, rfl, HL2, HI2⟩ := hrel
            clear HSV HI0
            obtain ⟨b1, b2, b3, b4⟩ := HBV.out _ _ _ HL2.out
            have HB3 := Lib.hid b3
            clear b3
            by_cases hkl : (k : Int) < l
            · have hI2 := HI2.out
              have hkk : l.toNat - k = (l.toNat - (k + 1)) + 1 := by omega
              rw [hkk, lapsI] at hI2
              by_cases h256 : L'.length ≤ 256
              · rw [if_pos h256] at hI2
                have HI3 := Lib.hid hI2
                have HK1 : Hid (k + 1 ≤ l.toNat) := Lib.hid (by omega)
                have h256i : (L'.length : Int) ≤ 256 := by omega
                have HC := Lib.hid (HIj.out wr B (.slice q' L'.length c') L' HQB.out b4 HB3.out HL2.out.own (by omega) hpok)
                clear hI2 hkk HI2
                go_wp2_with (go_at_call 155; (with_reducible refine HC.out.mono ?_); rintro e w6 ⟨val', rfl, ho, hg, hat⟩; obtain ⟨q6, c6, rfl⟩ := ho.shape; have HS6 := Lib.hid (HL2.out.step2 (World.grownBy.refl _ _) ho hg hat); clear ho hg hat)
                go_roundw
                case rel => exact ⟨k + 1, exPs sub L', q6, c6, HK1.out, by go_num, rfl, HS6, HI3⟩
                case measure =>
                  have := HK1.out
                  simp [intOf]
                  omega
              · rw [if_neg h256] at hI2
                have h256i : ¬ (L'.length : Int) ≤ 256 := by omega
                rw [← hI2] at HStep
                have HS6 := Lib.hid (HFV.out _ _ _ HL2.out)
                clear hI2 hkk HI2 HBV HFV HL2
                go_wp2_with fail
                go_roundw
                case rel => exact ⟨j + 1, L', q', c', by omega, by go_num, rfl, HS6, HStep⟩
                case measure => simp [intOf]; omega
            · have hI2 := HI2.out
              have hkk : l.toNat - k = 0 := by omega
              rw [hkk, lapsI] at hI2
              rw [← hI2] at HStep
              have HS6 := Lib.hid (HFV.out _ _ _ HL2.out)
              clear hI2 hkk HI2 HBV HFV HL2
              go_wp2_with fail
              go_roundw
              case rel => exact ⟨j + 1, L', q', c', by omega, by go_num, rfl, HS6, HStep⟩
              case measure => simp [intOf]; omega
      · have hji : ¬ (j : Int) < (ps.length : Int) := by omega
        have hT : L = T := by
          have := HI.out.1
          rw [List.drop_of_length_le (by omega), exPs] at this
          exact this
        subst hT
        clear HFm HIH
        go_wp2_with fail
        go_ret
        exact ⟨_, rfl, HL.out.own, by rw [HOB.out]; exact HL.out.gr, by rw [HOB.out]; exact HL.out.at'⟩
end Go.Proofs.YtabdgnigmlpeaaaGreatDoor
/- The specification's expanded route and the program's: the same, or both too long. -/
namespace Go.Proofs.YtabdgnigmlpeaaaGreatDoor
open Go.RowKit

mutual
/-- The whole route, uncut. -/
def flP : Pt → List Int
  | .mk a l ps => if l = 0 then [a] else (List.replicate l.toNat (flPs ps)).flatten
def flPs : List Pt → List Int
  | [] => []
  | p :: l => flP p ++ flPs l
end
/-- Both are the same, or both are too long. -/
def CutAt (out x : List Int) : Prop := out = x ∨ 256 < out.length ∧ 256 < x.length
theorem CutAt.app {out y z t : List Int} (h : CutAt out (y ++ t)) (h2 : CutAt y z) : CutAt out (z ++ t) := by
  rcases h2 with rfl | ⟨h2, h3⟩
  · exact h
  · rcases h with rfl | ⟨h, h4⟩
    · exact .inr ⟨by rw [List.length_append]; omega, by rw [List.length_append]; omega⟩
    · exact .inr ⟨h, by rw [List.length_append]; omega⟩
theorem CutAt.one {a b z : List Int} (h : CutAt a z) (h2 : CutAt b z) : CutAt a b := by
  rcases h with rfl | ⟨h, h3⟩
  · rcases h2 with rfl | ⟨h2, h4⟩
    · exact .inl rfl
    · exact .inr ⟨h4, h2⟩
  · rcases h2 with rfl | ⟨h2, h4⟩
    · exact .inr ⟨h, h3⟩
    · exact .inr ⟨h, h2⟩
theorem lapsI_cut (f : List Int → List Int) (x : List Int) (hf : ∀ r, CutAt (f r) (r ++ x)) : ∀ (n : Nat) (r : List Int), CutAt (lapsI f n r) (r ++ (List.replicate n x).flatten)
  | 0, r => .inl (by rw [lapsI]; simp)
  | n + 1, r => by
    rw [lapsI, List.replicate_succ, List.flatten_cons, ← List.append_assoc]
    split
    · exact (lapsI_cut f x hf n (f r)).app (hf r)
    · exact .inr ⟨by omega, by rw [List.length_append, List.length_append]; omega⟩
mutual
theorem exP_cut : ∀ (p : Pt) (r : List Int), CutAt (exP p r) (r ++ flP p)
  | .mk a l ps, r => by
    rw [exP, flP]
    by_cases hl : l = 0
    · subst hl
      rw [if_pos rfl, if_pos rfl]
      exact .inl rfl
    · rw [if_neg hl, if_neg hl]
      exact lapsI_cut _ _ (exPs_cut ps) _ r
theorem exPs_cut : ∀ (l : List Pt) (r : List Int), CutAt (exPs l r) (r ++ flPs l)
  | [], r => .inl (by rw [exPs, flPs, List.append_nil])
  | p :: l, r => by
    rw [exPs, flPs, ← List.append_assoc]
    exact (exPs_cut l (exP p r)).app (exP_cut p r)
end
/-- The specification's laps. -/
def rlap (one : List Int) : Nat → List Int → List Int
  | 0, out => out
  | n + 1, out => if out.length ≤ 256 then rlap one n (out ++ one) else out
mutual
def rxP : Pt → List Int → List Int
  | .mk a l ps, out => if l = 0 then out ++ [a] else rlap (rxPs ps []) l.toNat out
def rxPs : List Pt → List Int → List Int
  | [], out => out
  | p :: l, out => if out.length ≤ 256 then rxPs l (rxP p out) else out
end
theorem rlap_cut (one : List Int) : ∀ (n : Nat) (out : List Int), CutAt (rlap one n out) (out ++ (List.replicate n one).flatten)
  | 0, out => .inl (by rw [rlap]; simp)
  | n + 1, out => by
    rw [rlap, List.replicate_succ, List.flatten_cons, ← List.append_assoc]
    split
    · exact rlap_cut one n (out ++ one)
    · exact .inr ⟨by omega, by rw [List.length_append, List.length_append]; omega⟩
theorem flat_cut {one x : List Int} (h : CutAt one x) (out : List Int) : ∀ n : Nat, CutAt (out ++ (List.replicate n one).flatten) (out ++ (List.replicate n x).flatten)
  | 0 => .inl (by simp)
  | n + 1 => by
    rcases h with rfl | ⟨h, h2⟩
    · exact .inl rfl
    · rw [List.replicate_succ, List.flatten_cons, List.replicate_succ, List.flatten_cons]
      exact .inr ⟨by simp only [List.length_append]; omega, by simp only [List.length_append]; omega⟩
mutual
theorem rxP_cut : ∀ (p : Pt) (r : List Int), CutAt (rxP p r) (r ++ flP p)
  | .mk a l ps, r => by
    rw [rxP, flP]
    by_cases hl : l = 0
    · subst hl
      rw [if_pos rfl, if_pos rfl]
      exact .inl rfl
    · rw [if_neg hl, if_neg hl]
      have h1 := rxPs_cut ps []
      rw [List.nil_append] at h1
      have h2 := rlap_cut (rxPs ps []) l.toNat r
      have h3 := flat_cut h1 r l.toNat
      rcases h2 with h2 | ⟨h2, h4⟩
      · rw [h2]; exact h3
      · rcases h3 with h3 | ⟨h3, h5⟩
        · rw [h3] at h4; exact .inr ⟨h2, h4⟩
        · exact .inr ⟨h2, h5⟩
theorem rxPs_cut : ∀ (l : List Pt) (r : List Int), CutAt (rxPs l r) (r ++ flPs l)
  | [], r => .inl (by rw [rxPs, flPs, List.append_nil])
  | p :: l, r => by
    rw [rxPs, flPs, ← List.append_assoc]
    split
    · exact (rxPs_cut l (rxP p r)).app (rxP_cut p r)
    · exact .inr ⟨by omega, by simp only [List.length_append]; omega⟩
end
/-- The program's route and the specification's. -/
theorem routes_cut (l : List Pt) : CutAt (exPs l []) (rxPs l []) := (exPs_cut l []).one (rxPs_cut l [])
theorem rlap_len (one : List Int) : ∀ (n : Nat) (out : List Int), (rlap one n out).length ≤ max out.length (256 + one.length)
  | 0, out => by rw [rlap]; omega
  | n + 1, out => by
    rw [rlap]
    split
    · have := rlap_len one n (out ++ one)
      rw [List.length_append] at this
      omega
    · omega
mutual
theorem rxP_len : ∀ (p : Pt) (r : List Int), r.length ≤ 256 → (rxP p r).length ≤ 257 * (1 + szC (toCd p))
  | .mk a l ps, r, hr => by
    rw [rxP, toCd, szC]
    by_cases hl : l = 0
    · subst hl
      rw [if_pos rfl, List.length_append]
      simp only [List.length_cons, List.length_nil]
      omega
    · rw [if_neg hl]
      have h1 := rlap_len (rxPs ps []) l.toNat r
      have h2 := rxPs_len ps []
      rw [List.length_nil] at h2
      omega
theorem rxPs_len : ∀ (l : List Pt) (r : List Int), (rxPs l r).length ≤ max r.length (257 * (1 + szCs (toCds l)))
  | [], r => by rw [rxPs]; omega
  | p :: l, r => by
    rw [rxPs, toCds, szCs]
    have h2 := rxPs_len l (rxP p r)
    split
    · rename_i hr
      have h1 := rxP_len p r hr
      omega
    · omega
end
theorem lapsI_in {P : Int → Prop} (f : List Int → List Int) (hf : ∀ r, (∀ a ∈ r, P a) → ∀ a ∈ f r, P a) : ∀ (n : Nat) (r : List Int), (∀ a ∈ r, P a) → ∀ a ∈ lapsI f n r, P a
  | 0, r, h => by rw [lapsI]; exact h
  | n + 1, r, h => by
    rw [lapsI]
    split
    · exact lapsI_in f hf n (f r) (hf r h)
    · exact h
mutual
theorem exP_in (m : Nat) : ∀ (p : Pt) (r : List Int), ptR m p = true → (∀ a ∈ r, 0 ≤ a ∧ a < (m : Int)) → ∀ a ∈ exP p r, 0 ≤ a ∧ a < (m : Int)
  | .mk a l ps, r, h, hr => by
    rw [exP]
    rw [ptR] at h
    by_cases hl : l = 0
    · subst hl
      rw [if_pos rfl] at h ⊢
      show ∀ x ∈ lapsI (exPs ps) 0 (r ++ [a]), _
      rw [lapsI]
      intro x hx
      rw [List.mem_append, List.mem_singleton] at hx
      rcases hx with hx | rfl
      · exact hr x hx
      · unfold inI at h
        simp only [Bool.and_eq_true, decide_eq_true_eq] at h
        omega
    · rw [if_neg hl] at h ⊢
      simp only [Bool.and_eq_true] at h
      exact lapsI_in _ (fun r2 hr2 => exPs_in m ps r2 h.2.2.2 hr2) _ r hr
theorem exPs_in (m : Nat) : ∀ (l : List Pt) (r : List Int), ptsR m l = true → (∀ a ∈ r, 0 ≤ a ∧ a < (m : Int)) → ∀ a ∈ exPs l r, 0 ≤ a ∧ a < (m : Int)
  | [], r, _, hr => by rw [exPs]; exact hr
  | p :: l, r, h, hr => by
    rw [exPs]
    rw [ptsR, Bool.and_eq_true] at h
    exact exPs_in m l _ h.2 (exP_in m p r h.1 hr)
end
end Go.Proofs.YtabdgnigmlpeaaaGreatDoor
/- The specification's depth and number of the parts of a route: mathematics. -/
namespace Go.Proofs.YtabdgnigmlpeaaaGreatDoor
open Go.RowKit

mutual
def depP : Nat → Pt → Nat
  | m, .mk _ _ ps => if ps.isEmpty then 0 else 1 + depL m 0 ps
/-- The depth of a list, at most m; n is what has been found. -/
def depL : Nat → Nat → List Pt → Nat
  | _, n, [] => n
  | m, n, p :: l => if m = 0 then n else depL m (max n (depP (m - 1) p)) l
end
theorem depL_zero : ∀ (l : List Pt) (n : Nat), depL 0 n l = n
  | [], n => by rw [depL]
  | p :: l, n => by rw [depL, if_pos rfl]
mutual
theorem depP_iff : ∀ (p : Pt) (m d : Nat), d + m = 16 → (depP m p ≤ m ↔ dpC d (toCd p) = true)
  | .mk a l ps, m, d, h => by
    rw [depP, toCd, dpC]
    cases hp : ps with
    | nil => rw [toCds, dpCs]; simp
    | cons q t =>
      have he : (toCds (q :: t)).isEmpty = false := by rw [toCds]; rfl
      rw [he, Bool.false_or, if_neg (by simp), Bool.and_eq_true, decide_eq_true_eq]
      by_cases hm : m = 0
      · subst hm
        omega
      · have := depL_iff ps (m - 1) (d + 1) 0 (by omega)
        rw [show m - 1 + 1 = m by omega, hp] at this
        constructor
        · intro h2
          exact ⟨by omega, (this.1 (by omega)).2⟩
        · rintro ⟨_, h2⟩
          have := this.2 ⟨by omega, h2⟩
          omega
theorem depL_iff : ∀ (l : List Pt) (m d n : Nat), d + m = 16 → (depL (m + 1) n l ≤ m ↔ n ≤ m ∧ dpCs d (toCds l) = true)
  | [], m, d, n, h => by rw [depL, toCds, dpCs]; simp
  | p :: l, m, d, n, h => by
    rw [depL, if_neg (by omega), Nat.add_sub_cancel, depL_iff l m d _ h, toCds, dpCs, Bool.and_eq_true, ← depP_iff p m d h]
    constructor
    · rintro ⟨h1, h2⟩
      exact ⟨by omega, by omega, h2⟩
    · rintro ⟨h1, h2, h3⟩
      exact ⟨by omega, h3⟩
end
mutual
theorem depP_max : ∀ (p : Pt) (m : Nat), depP m p ≤ m + 1
  | .mk a l ps, m => by
    rw [depP]
    have := depL_max ps m 0
    split <;> omega
theorem depL_max : ∀ (l : List Pt) (m n : Nat), depL m n l ≤ max n m
  | [], m, n => by rw [depL]; omega
  | p :: l, m, n => by
    rw [depL]
    split
    · omega
    · have h1 := depP_max p (m - 1)
      have h2 := depL_max l m (max n (depP (m - 1) p))
      omega
end
mutual
def cnP : Pt → Nat
  | .mk _ _ ps => min (cnL ps.length ps) 257
def cnL : Nat → List Pt → Nat
  | n, [] => n
  | n, p :: l => if n ≤ 256 then cnL (n + cnP p) l else n
end
mutual
theorem cnP_eq : ∀ p : Pt, cnP p + 1 = min (szC (toCd p)) 258
  | .mk a l ps => by
    rw [cnP, toCd, szC]
    have := cnL_eq ps ps.length
    omega
theorem cnL_eq : ∀ (l : List Pt) (n : Nat), l.length ≤ n → min (cnL n l) 257 = min (n - l.length + szCs (toCds l)) 257
  | [], n, _ => by rw [cnL, toCds, szCs]; simp
  | p :: l, n, h => by
    rw [cnL, toCds, szCs]
    simp only [List.length_cons] at h ⊢
    have h1 := cnP_eq p
    have h3 := szC_pos (toCd p)
    have h4 := szCs_len (toCds l)
    rw [toCds_eq, List.length_map, ← toCds_eq] at h4
    split
    · have h2 := cnL_eq l (n + cnP p) (by omega)
      rw [h2]
      omega
    · omega
end
theorem limL_eq (l : List Pt) : (fitL 0 256 (l.map toCd)).1 = (decide (depL 17 0 l ≤ 16) && decide (min (cnL l.length l) 257 ≤ 256)) := by
  have h1 := fitL_iff (l.map toCd)
  have h2 := depL_iff l 16 0 0 rfl
  have h3 := cnL_eq l l.length (Nat.le_refl _)
  rw [toCds_eq] at h2 h3
  rw [Bool.eq_iff_iff, h1, Bool.and_eq_true, decide_eq_true_eq, decide_eq_true_eq, h2]
  constructor
  · rintro ⟨h4, h5⟩
    exact ⟨⟨by omega, h4⟩, by omega⟩
  · rintro ⟨⟨_, h4⟩, h5⟩
    exact ⟨h4, by omega⟩
end Go.Proofs.YtabdgnigmlpeaaaGreatDoor
/- The specification: between two numbers; an index of a mat; how often; which leg. -/
namespace Go.Proofs.YtabdgnigmlpeaaaGreatDoor
open Go.RowKit

set_option maxHeartbeats 1000000 in
theorem rbet_any (n lo hi : Int) (w : World) : Calls Tryz.prog 97 #[.int .i64 n, .int .i64 lo, .int .i64 hi] w fun e w' => e = .returned (.bool (inI lo hi n)) ∧ Below w.heap.size w w' := by
  have HB := Lib.hid (Below.refl w.heap.size w)
  unfold inI
  by_cases h3 : lo ≤ n <;> by_cases h4 : n ≤ hi
  all_goals
    go_enter Tryz.func97, Tryz.ntmps97
    go_wp2_with fail
    go_ret
    exact ⟨by simp [h3, h4], HB.out⟩
set_option maxHeartbeats 1000000 in
theorem rmat_any (c : Crs) (x : CLoc) (n : Int) (hm : c.mats.length ≤ 1000000000) (w : World) : Calls Tryz.prog 98 #[courseV c x, .int .i64 n] w fun e w' => e = .returned (.bool (inI 0 ((c.mats.length : Int) - 1) n)) ∧ Below w.heap.size w w' := by
  have HA := Lib.hid ((Below.refl w.heap.size w).alloc (Nat.le_refl _) (.cells (cellsC c x).toArray 33))
  have HN := Lib.hid (fun W => rbet_any n 0 ((c.mats.length : Int) - 1) W)
  have hn1 : IntKind.i64.wrap ((c.mats.length : Int) - 1) = (c.mats.length : Int) - 1 := IntWalk.i64_in _ (by omega)
  unfold courseV
  unfold cellsC at *
  generalize inI 0 ((c.mats.length : Int) - 1) n = q at *
  go_enter Tryz.func98, Tryz.ntmps98
  go_wp2_with (go_at_call 97; (with_reducible refine (HN.out _).mono ?_); rintro e w1 ⟨rfl, hb⟩; have HB := Lib.hid (HA.out.trans (hb.mono HA.out.size)); clear hb)
  go_ret
  exact ⟨rfl, HB.out⟩
set_option maxHeartbeats 4000000 in
set_option maxRecDepth 100000 in
theorem roften_any (a : List Int) (n : Int) (x : Value) (W : World) (ha : ReadsI W x a) :
    Calls Tryz.prog 101 #[x, .int .i64 n] W fun e w' => e = .returned (.int .i64 (a.count n : Nat)) ∧ Below W.heap.size W w' := by
  obtain ⟨p, cap, k, rfl, h1, h2, h3, h4, h5⟩ := ha
  have HB0 := Lib.hid (Below.refl W.heap.size W)
  have HE : Hid (∀ j (h : j < a.length), p = some ⟨k, 0, none⟩ ∧ W.cell? ⟨k, j, none⟩ = some (.int .i64 a[j]) ∧ ((a.take (j + 1)).count n = (a.take j).count n + if a[j] == n then 1 else 0) ∧ (a.take j).count n ≤ j) := Lib.hid fun j hj => by
    refine ⟨h2 (by rintro rfl; simp at hj), h3 j hj, ?_, ?_⟩
    · rw [List.take_succ_eq_append_getElem hj, List.count_append, List.count_singleton]
    · have := List.count_le_length (a := n) (l := a.take j)
      rw [List.length_take] at this
      omega
  have HT : Hid (a.take a.length = a) := Lib.hid (List.take_length)
  clear h2 h3
  go_enter Tryz.func101, Tryz.ntmps101
  go_wp2_with fail
  go_loopw [5, 6] (fun kv i wr => ∃ j : Nat, j ≤ a.length ∧ i = .int .i64 j ∧ kv = .int .i64 ((a.take j).count n : Nat) ∧ wr = W) (fun _ i _ => a.length - (intOf i).toNat)
  case atStart => exact ⟨0, Nat.zero_le _, rfl, rfl, rfl⟩
  case round =>
    obtain ⟨j, hj, rfl, rfl, rfl⟩ := hrel
    by_cases hlt : j < a.length
    · have hji : (j : Int) < (a.length : Int) := by omega
      obtain ⟨rfl, c1, hs, hle⟩ := HE.out j hlt
      have HS := Lib.hid hs
      clear HE hs
      generalize (a.take j).count n = m at *
      generalize a[j] = v1 at *
      by_cases hv : v1 = n
      · have hvi : (v1 == n) = true := by simpa using hv
        have HM : Hid ((a.take (j + 1)).count n = m + 1) := Lib.hid (by rw [HS.out, if_pos hvi])
        clear hv HS
        go_wp2_with fail
        go_round
        case rel => exact ⟨j + 1, by omega, by go_num, by rw [HM.out]; go_num, trivial⟩
        case measure => simp [intOf]; omega
      · have hvi : (v1 == n) = false := by simpa using hv
        have HM : Hid ((a.take (j + 1)).count n = m) := Lib.hid (by rw [HS.out, if_neg (by rw [hvi]; decide)]; rfl)
        clear hv HS
        go_wp2_with fail
        go_round
        case rel => exact ⟨j + 1, by omega, by go_num, by rw [HM.out], trivial⟩
        case measure => simp [intOf]; omega
    · have hji : ¬ (j : Int) < (a.length : Int) := by omega
      obtain rfl : j = a.length := by omega
      rw [HT.out]
      clear HE
      go_wp2_with fail
      go_ret
      exact ⟨rfl, HB0.out⟩
end Go.Proofs.YtabdgnigmlpeaaaGreatDoor
/- The specification: the expanded route. -/
namespace Go.Proofs.YtabdgnigmlpeaaaGreatDoor
open Go.RowKit

mutual
theorem flP_ne (m : Nat) : ∀ p : Pt, ptR m p = true → flP p ≠ []
  | .mk a l ps, h => by
    rw [flP]
    rw [ptR] at h
    by_cases hl : l = 0
    · rw [if_pos hl]; simp
    · rw [if_neg hl] at h ⊢
      simp only [Bool.and_eq_true] at h
      obtain ⟨h1, -, h3, h4⟩ := h
      unfold inI at h1
      simp only [Bool.and_eq_true, decide_eq_true_eq] at h1
      obtain ⟨n, hn⟩ : ∃ n, l.toNat = n + 1 := ⟨l.toNat - 1, by omega⟩
      rw [hn, List.replicate_succ, List.flatten_cons]
      have := flPs_ne m ps h4
      intro e
      rw [List.append_eq_nil_iff] at e
      exact this (by rintro rfl; simp at h3) e.1
theorem flPs_ne (m : Nat) : ∀ l : List Pt, ptsR m l = true → l ≠ [] → flPs l ≠ []
  | [], _, h => absurd rfl h
  | p :: l, h, _ => by
    rw [ptsR, Bool.and_eq_true] at h
    rw [flPs]
    intro e
    rw [List.append_eq_nil_iff] at e
    exact flP_ne m p h.1 e.1
end
theorem rxPs_ne (m : Nat) (l : List Pt) (h : ptsR m l = true) (hne : l ≠ []) : rxPs l [] ≠ [] := by
  have h1 := flPs_ne m l h hne
  rcases rxPs_cut l [] with h2 | ⟨h2, -⟩
  · rw [h2]; simpa using h1
  · intro e; rw [e] at h2; simp at h2
/-- A row that is read, behind a row of the call's own: the row is the old one, or a new one. -/
theorem wpList_copyL {ops : Array Oper} {rest : List Oper} {o : Oper} {a : Act} {w : World} {Q : Exit → Act → World → Prop} (hgd : o.guard = none) (s x : Operand)
    (ho : o.op = .call { callee := .builtin .append, args := #[s, x], argTypes := #[49, 49] })
    (B : Nat) (val : Value) (l : List Int) (hown : OwnI w B val l) (hs : a.eval s = val) (b cap : Nat) (cs : List Int) (hne : cs ≠ []) (hsrc : ∀ i (h : i < cs.length), w.cell? ⟨b, i, none⟩ = some (.int .i64 cs[i])) (hx : a.eval x = .slice (some ⟨b, 0, none⟩) cs.length cap) (hn : l.length + cs.length ≤ 3000000) (hB : B ≤ w.heap.size)
    (h : ∀ g cap' w', OwnI w' B (.slice (some ⟨g, 0, none⟩) (l.length + cs.length) cap') (l ++ cs) → w.grownBy w' val.ownBlock → (val.ownBlock = some g ∨ w.heap.size ≤ g) → wpList Tryz.prog ops Q rest (a.put o.dst (.slice (some ⟨g, 0, none⟩) (l.length + cs.length) cap')) w') : wpList Tryz.prog ops Q (o :: rest) a w := by
  obtain ⟨i0, hi, hz0, hz1, hz2⟩ := info_parts Tryz.infoI
  have hcell : ∀ j u, (rowV cs)[j]? = some u → w.cell? ((⟨b, 0, none⟩ : Addr).add j) = some u := fun j u hu => by
    unfold rowV at hu
    rw [List.getElem?_map] at hu
    obtain ⟨n, hj, rfl⟩ := Option.map_eq_some_iff.1 hu
    obtain ⟨hlt, rfl⟩ := List.getElem?_eq_some_iff.1 hj
    have hadd : (⟨b, 0, none⟩ : Addr).add j = ⟨b, j, none⟩ := by
      unfold Addr.add
      split <;> simp_all
    rw [hadd]
    exact hsrc j hlt
  have hpos : 0 < cs.length := List.length_pos_iff.2 hne
  refine wpList_append_lies _ hgd s x 49 ho B 3 i0 _ 1 8 Tryz.underlying49 hi hz0 hz1 hz2 rfl (by decide) val l.length (rowV l) hs hown ⟨b, 0, none⟩ cs.length cap (rowV cs) hx (by simp [rowV]) hcell (by simp [rowV, Value.oneCell']) hpos (by unfold maxLen; omega) (by omega) hB w.heap.size rfl ?_
  intro g cap' w' hown' hg hat hlt
  refine h g cap' w' ?_ hg (hat.imp id fun h => by omega)
  unfold OwnI
  rw [List.length_append]
  have : rowV (l ++ cs) = rowV l ++ rowV cs := by simp [rowV]
  rw [this]
  exact hown'
/-- A row that is read and is not the own one. -/
structure Apart (w : World) (v : Value) (b : Nat) (l : List Int) : Prop where
  rd : ∀ i (h : i < l.length), w.cell? ⟨b, i, none⟩ = some (.int .i64 l[i])
  lt : b < w.heap.size
  ne : v.ownBlock ≠ some b
theorem Apart.step {w w5 : World} {v v5 : Value} {b : Nat} {l : List Int} (h : Apart w v b l) (hg : w.grownBy w5 v.ownBlock) (hat : v5.ownBlock = v.ownBlock ∨ ∀ k, v5.ownBlock = some k → w.heap.size ≤ k) : Apart w5 v5 b l := by
  refine ⟨fun i hi => keepg hg (fun e => h.ne e.symm) (h.rd i hi), Nat.lt_of_lt_of_le h.lt hg.size, fun e => ?_⟩
  rcases hat with h1 | h1
  · exact h.ne (h1 ▸ e)
  · have := h1 b e
    have := h.lt
    omega
set_option maxHeartbeats 16000000 in
set_option maxRecDepth 100000 in
theorem rexp_any (m : Nat) {w0 : World} {Q : Nat → Prop} {c : Pt} {p : Option Addr} {cap : Nat} (h : PtIn w0 Q c p cap) : ∀ (W : World), Below w0.heap.size w0 W → 257 * (1 + szCs (toCds c.ps)) ≤ 900000 → ptsR m c.ps = true →
    Calls Tryz.prog 32 #[.slice p c.ps.length cap] W fun e w' => ∃ v, e = .returned v ∧ OwnI w' W.heap.size v (rxPs c.ps []) ∧ Below W.heap.size W w' := by
  induction h with
  | mk m0 l0 ps p cap b off P C hl hc hc2 hp hb hcell hsub ih =>
    intro W hW hlen hok
    show Calls Tryz.prog 32 #[.slice p ps.length cap] W fun e w' => ∃ v, e = .returned v ∧ OwnI w' W.heap.size v (rxPs ps []) ∧ Below W.heap.size W w'
    replace hlen : 257 * (1 + szCs (toCds ps)) ≤ 900000 := hlen
    replace hok : ptsR m ps = true := hok
    obtain ⟨T, hT⟩ : ∃ T, rxPs ps [] = T := ⟨_, rfl⟩
    have hTl := rxPs_len ps []
    rw [hT, List.length_nil] at hTl
    rw [hT]
    have H0 : Hid (rxPs (ps.drop 0) [] = T ∧ 257 * (1 + szCs (toCds (ps.drop 0))) ≤ 900000 ∧ ptsR m (ps.drop 0) = true) := Lib.hid (by rw [List.drop_zero]; exact ⟨hT, hlen, hok⟩)
    have HS0 : Hid (ASt W (W.alloc (.cells #[] 3)) W.heap.size none (.slice (some ⟨W.heap.size, 0, none⟩) 0 0) []) := Lib.hid ⟨own1 W W.heap.size W.heap.size rfl (Nat.le_refl _), gr_bel none ((Below.refl W.heap.size W).alloc (Nat.le_refl _) _), .inr (by intro k hk; simp [Value.ownBlock] at hk; omega)⟩
    have HE : Hid (∀ w', Below W.heap.size W w' → ∀ j (h : j < ps.length), (p = some ⟨b, off, none⟩ ∧ w'.cell? ⟨b, off + j * 3, none⟩ = some (.int .i64 ps[j].m) ∧ w'.cell? ⟨b, off + j * 3 + 1, none⟩ = some (.int .i64 ps[j].l) ∧ w'.cell? ⟨b, off + j * 3 + 2, none⟩ = some (.slice (P j) ps[j].ps.length (C j))) ∧
        (257 * (1 + szCs (toCds ps[j].ps)) ≤ 900000 → ptsR m ps[j].ps = true → Calls Tryz.prog 32 #[.slice (P j) ps[j].ps.length (C j)] w' fun e w2 => ∃ v, e = .returned v ∧ OwnI w2 w'.heap.size v (rxPs ps[j].ps []) ∧ Below w'.heap.size w' w2)) := Lib.hid fun w' hb' j hj => by
      have hbb := hW.trans (hb'.mono hW.size)
      obtain ⟨a0, a1, a2⟩ := hcell j hj
      exact ⟨⟨(hb (by rintro rfl; simp at hj)).1, keepc hbb a0, keepc hbb a1, keepc hbb a2⟩, fun h1 h2 => ih j hj w' hbb h1 h2⟩
    clear ih hsub hcell hb hW hT hlen hok
    go_enter Tryz.func32, Tryz.ntmps32
    go_wp2_with fail
    go_loopw [3, 4] (fun v i wr => ∃ (j : Nat) (L : List Int) (q : Option Addr) (c : Nat), j ≤ ps.length ∧ i = .int .i64 j ∧ v = .slice q L.length c ∧ Hid (ASt W wr W.heap.size none (.slice q L.length c) L) ∧ Hid (rxPs (ps.drop j) L = T ∧ 257 * (1 + szCs (toCds (ps.drop j))) ≤ 900000 ∧ ptsR m (ps.drop j) = true)) (fun _ i _ => ps.length - (intOf i).toNat)
    case atStart => exact ⟨0, [], _, _, Nat.zero_le _, rfl, rfl, HS0, H0⟩
    case round =>
      obtain ⟨j, L, q, c, hj, rfl, rfl, HL, HI⟩ := hrel
      clear H0 HS0
      have hb0 : Below W.heap.size W wr := HL.out.below (by simp) (Nat.le_refl _)
      have HB := Lib.hid hb0
      by_cases hlt : j < ps.length
      · have hji : (j : Int) < (ps.length : Int) := by omega
        obtain ⟨⟨rfl, a0, a1, a2⟩, hcall⟩ := HE.out wr hb0 j hlt
        have hI := HI.out
        rw [(List.getElem_cons_drop hlt).symm, rxPs, toCds, szCs, szC_toCd, ptsR, Bool.and_eq_true] at hI
        clear hb0
        by_cases h256 : L.length ≤ 256
        · have h256i : (L.length : Int) ≤ 256 := by omega
          rw [if_pos h256] at hI
          obtain ⟨hI1, hI2, hI3, hI4⟩ := hI
          have HCC := Lib.hid (hcall (by omega))
          have hone := rxPs_len ps[j].ps []
          rw [List.length_nil] at hone
          have HC1 : Hid (∀ w', Below W.heap.size W w' → w'.cell? ⟨b, off + j * 3 + 1, none⟩ = some (.int .i64 ps[j].l)) := Lib.hid fun w' hb => (HE.out w' hb j hlt).1.2.2.1
          have HNE : Hid (ptsR m ps[j].ps = true → ps[j].ps ≠ [] → rxPs ps[j].ps [] ≠ []) := Lib.hid (rxPs_ne m ps[j].ps)
          clear HE HI hcall
          generalize ps[j] = pj at *
          generalize P j = Pj at *
          generalize C j = Cj at *
          obtain ⟨a, l, sub⟩ := pj
          rw [rxP] at hI1
          rw [ptR] at hI3
          simp only [Pt.m, Pt.l, Pt.ps] at *
          have HOwn := Lib.hid HL.out.own
          have HSz := Lib.hid HB.out.size
          by_cases hl0 : l = 0
          · subst hl0
            rw [if_pos rfl] at hI1
            have HStep : Hid (rxPs (ps.drop (j + 1)) (L ++ [a]) = T ∧ 257 * (1 + szCs (toCds (ps.drop (j + 1)))) ≤ 900000 ∧ ptsR m (ps.drop (j + 1)) = true) := Lib.hid ⟨hI1, by omega, hI4⟩
            clear hI1 hI2 hI3 hI4 HCC HNE hone HC1
            go_wp2_with (refine wpList_pushI rfl _ _ rfl W.heap.size _ L HOwn.out rfl a 1 _ (by simp) rfl (by omega) HSz.out ?_; intro g cap' w5 ho5 hg5 hat5; have HS5 := Lib.hid (HL.out.step (Below.refl _ _) ho5 hg5 (own_at hat5)); clear ho5 hg5 hat5)
            go_round
            case rel => exact ⟨j + 1, L ++ [a], _, _, by omega, by go_num, by rw [List.length_append]; rfl, by rw [List.length_append]; exact HS5, HStep⟩
            case measure => simp [intOf]; omega
          · rw [if_neg hl0] at hI1 hI3
            simp only [Bool.and_eq_true] at hI3
            obtain ⟨hp1, -, hp3, hp4⟩ := hI3
            have hsne : sub ≠ [] := by rintro rfl; simp at hp3
            have hl64 : 1 ≤ l ∧ l ≤ 64 := by unfold inI at hp1; simpa using hp1
            obtain ⟨hl1, hl64⟩ := hl64
            have hone2 := HNE.out hp4 hsne
            have HCC2 := Lib.hid (HCC.out hp4)
            have hol : (rxPs sub []).length ≤ 900000 := by omega
            have hl2 : (l == 0) = false := by simpa using hl0
            clear hp1 hp3 hp4 hsne HCC HNE hone hl0 a0
            generalize rxPs sub [] = one at *
            obtain ⟨N, hN⟩ : ∃ N, rlap one l.toNat L = N := ⟨_, rfl⟩
            rw [hN] at hI1
            have HStep : Hid (rxPs (ps.drop (j + 1)) N = T ∧ 257 * (1 + szCs (toCds (ps.drop (j + 1)))) ≤ 900000 ∧ ptsR m (ps.drop (j + 1)) = true) := Lib.hid ⟨hI1, by omega, hI4⟩
            have HI0 : Hid (rlap one (l.toNat - 0) L = N) := Lib.hid (by rw [Nat.sub_zero]; exact hN)
            have HO2 := Lib.hid hone2
            clear hI1 hI2 hI4 hN hone2
            go_wp2_with (go_at_call 32; (with_reducible refine HCC2.out.mono ?_); rintro e w6 ⟨v1, rfl, ho1, hb1⟩; obtain ⟨p1, c1, b1, rfl, hp1, hrd1, -, -⟩ := OwnI.reads ho1 (by omega); obtain rfl := hp1 HO2.out; have hlt1 := ho1.lt b1 rfl; have HS6 := Lib.hid (HL.out.step hb1 (HOwn.out.bel hb1) (World.grownBy.refl _ _) (.inl rfl)); have HA6 : Hid (Apart w6 (.slice q L.length c) b1 one) := Lib.hid ⟨hrd1, hlt1.2, fun e => by have := HOwn.out.lt b1 e; omega⟩; clear ho1 hb1 hrd1 hlt1 hp1)
            go_loopw [3, 6] (fun v k6 wr2 => ∃ (k : Nat) (L' : List Int) (q' : Option Addr) (c' : Nat), k ≤ l.toNat ∧ k6 = .int .i64 k ∧ v = .slice q' L'.length c' ∧ Hid (ASt W wr2 W.heap.size none (.slice q' L'.length c') L') ∧ Hid (Apart wr2 (.slice q' L'.length c') b1 one) ∧ Hid (rlap one (l.toNat - k) L' = N)) (fun _ k6 _ => l.toNat - (intOf k6).toNat)
            case atStart => exact ⟨0, L, _, _, Nat.zero_le _, rfl, rfl, HS6, HA6, HI0⟩
            case round =>
              obtain ⟨k, L', q', c', hk, rfl, rfl, HL2, HA2, HI2⟩ := hrel
              clear HS6 HA6 HI0
              have hb2 : Below W.heap.size W wr := HL2.out.below (by simp) (Nat.le_refl _)
              have a1x := HC1.out wr hb2
              have HB2 := Lib.hid hb2
              have hI2 := HI2.out
              clear hb2
              by_cases hkl : (k : Int) < l
              · have hkk : l.toNat - k = (l.toNat - (k + 1)) + 1 := by omega
                rw [hkk, rlap] at hI2
                by_cases h256b : L'.length ≤ 256
                · rw [if_pos h256b] at hI2
                  have HI3 := Lib.hid hI2
                  have HK1 : Hid (k + 1 ≤ l.toNat) := Lib.hid (by omega)
                  have h256bi : (L'.length : Int) ≤ 256 := by omega
                  have HOwn2 := Lib.hid HL2.out.own
                  have HSz2 := Lib.hid HB2.out.size
                  clear hI2 hkk HI2
                  go_wp2_with (refine wpList_copyL rfl _ _ rfl W.heap.size _ L' HOwn2.out rfl b1 _ one HO2.out HA2.out.rd rfl (by omega) HSz2.out ?_; intro g cap' w7 ho7 hg7 hat7; have hat8 := own_at (n := L'.length + one.length) (c := cap') hat7; have HS7 := Lib.hid (HL2.out.step (Below.refl _ _) ho7 hg7 hat8); have HA7 := Lib.hid (HA2.out.step hg7 hat8); clear ho7 hg7 hat7 hat8)
                  go_roundw
                  case rel => exact ⟨k + 1, L' ++ one, _, _, HK1.out, by go_num, by rw [List.length_append], by rw [List.length_append]; exact HS7, by rw [List.length_append]; exact HA7, HI3⟩
                  case measure =>
                    have := HK1.out
                    simp [intOf]
                    omega
                · rw [if_neg h256b] at hI2
                  have h256bi : ¬ (L'.length : Int) ≤ 256 := by omega
                  rw [← hI2] at HStep
                  clear hI2 hkk HI2
                  go_wp2_with fail
                  go_roundw
                  case rel => exact ⟨j + 1, L', q', c', by omega, by go_num, rfl, HL2, HStep⟩
                  case measure => simp [intOf]; omega
              · have hkk : l.toNat - k = 0 := by omega
                rw [hkk, rlap] at hI2
                rw [← hI2] at HStep
                clear hI2 hkk HI2
                go_wp2_with fail
                go_roundw
                case rel => exact ⟨j + 1, L', q', c', by omega, by go_num, rfl, HL2, HStep⟩
                case measure => simp [intOf]; omega
        · have h256i : ¬ (L.length : Int) ≤ 256 := by omega
          rw [if_neg h256] at hI
          obtain ⟨rfl, -⟩ := hI
          clear HE HI hcall
          go_wp2_with fail
          go_ret
          exact ⟨_, rfl, HL.out.own, HB.out⟩
      · have hji : ¬ (j : Int) < (ps.length : Int) := by omega
        have hT : L = T := by
          have := HI.out.1
          rw [List.drop_of_length_le (by omega), rxPs] at this
          exact this
        subst hT
        clear HE HI
        go_wp2_with fail
        go_ret
        exact ⟨_, rfl, HL.out.own, HB.out⟩
end Go.Proofs.YtabdgnigmlpeaaaGreatDoor
/- The specification: the parts of a route, the numbers of a distance. -/
namespace Go.Proofs.YtabdgnigmlpeaaaGreatDoor
open Go.RowKit

set_option maxRecDepth 100000 in
theorem infoC : (Tryz.prog.info? 33).map (·.size) = some 16 := by kernel_rfl
/-- A course that has been laid as a block is read again, whole. -/
theorem ld_keep {W w' : World} {C : Array Value} (hn : C.size = 16) (hb : Below (W.alloc (.cells C 33)).heap.size (W.alloc (.cells C 33)) w') : (Instr.loadAt 33 (.pointer (some ⟨W.heap.size, 0, none⟩))).run Tryz.prog w' = .ok (.agg C) w' := by
  have hblk : w'.heap[W.heap.size]? = some (.cells C 33 (0, 0)) := (hb.block W.heap.size (by simp)).trans (heap_alloc_last W _)
  have h := run_loadVar_row w' W.heap.size 33 33 C (0, 0) _ hblk Tryz.underlying33 rfl (by rw [infoC, hn])
  simp only [Instr.loadAt, Instr.sureAddr, Sem.run_bind, Sem.run_pure, Result.andThen_ok, h]
/-- A load of a whole struct, at the operation, under a guard that is wanted. -/
theorem wpList_loadW {ops : Array Oper} {rest : List Oper} {o : Oper} {a : Act} {w : World} {K : Exit → Act → World → Prop} {ty : TypeId} {x : Operand} (ho : o.op = .load ty x) (hw : Region.wanted o (yielded ops a.tmps) = true) {p : Value} (hx : a.eval x = p) {v : Value} (hl : (Instr.loadAt ty p).run Tryz.prog w = .ok v w) (h : wpList Tryz.prog ops K rest (a.put o.dst v) w) : wpList Tryz.prog ops K (o :: rest) a w :=
  wpList_step fun K2 hK => by
    rw [if_pos hw]
    unfold Oper.wp execOp
    simp only [ho, hx, Sem.run_bind, hl, Sem.run_pure, Result.andThen_ok]
    exact hK _ _ h
theorem ptR_z (m : Nat) (a : Int) (ps : List Pt) : ptR m (.mk a 0 ps) = (inI 0 ((m : Int) - 1) a && decide (ps.length = 0)) := by
  rw [ptR, if_pos rfl]
  cases ps <;> simp
theorem ptR_l (m : Nat) (a l : Int) (ps : List Pt) (hl : l ≠ 0) : ptR m (.mk a l ps) = (inI 1 64 l && (a == 0 && (!decide (ps.length = 0) && ptsR m ps))) := by
  rw [ptR, if_neg hl]
  cases ps <;> simp
set_option maxHeartbeats 8000000 in
set_option maxRecDepth 100000 in
theorem rpartly_any (co : Crs) (x : CLoc) (hm : co.mats.length ≤ 1000000000) {w0 : World} {Q : Nat → Prop} {c : Pt} {p : Option Addr} {cap : Nat} (h : PtIn w0 Q c p cap) : ∀ (W : World), Below w0.heap.size w0 W →
    Calls Tryz.prog 163 #[courseV co x, .slice p c.ps.length cap] W fun e w' => e = .returned (.bool (ptsR co.mats.length c.ps)) ∧ Below W.heap.size W w' := by
  induction h with
  | mk m0 l0 ps p cap b off P C hl hc hc2 hp hb hcell hsub ih =>
    intro W hW
    show Calls Tryz.prog 163 #[courseV co x, .slice p ps.length cap] W fun e w' => e = .returned (.bool (ptsR co.mats.length ps)) ∧ Below W.heap.size W w'
    obtain ⟨T, hT⟩ : ∃ T, ptsR co.mats.length ps = T := ⟨_, rfl⟩
    rw [hT]
    have H0 : Hid (ptsR co.mats.length (ps.drop 0) = T) := Lib.hid (by rw [List.drop_zero]; exact hT)
    have NM : Hid (∀ a W, Calls Tryz.prog 98 #[courseV co x, .int .i64 a] W fun e w' => e = .returned (.bool (inI 0 ((co.mats.length : Int) - 1) a)) ∧ Below W.heap.size W w') := Lib.hid fun a W => rmat_any co x a hm W
    have NI : Hid (∀ a W, Calls Tryz.prog 97 #[.int .i64 a, .int .i64 1, .int .i64 64] W fun e w' => e = .returned (.bool (inI 1 64 a)) ∧ Below W.heap.size W w') := Lib.hid fun a W => rbet_any a 1 64 W
    have HE : Hid (∀ w', Below W.heap.size W w' → ∀ j (h : j < ps.length), (p = some ⟨b, off, none⟩ ∧ w'.cell? ⟨b, off + j * 3, none⟩ = some (.int .i64 ps[j].m) ∧ w'.cell? ⟨b, off + j * 3 + 1, none⟩ = some (.int .i64 ps[j].l) ∧ w'.cell? ⟨b, off + j * 3 + 2, none⟩ = some (.slice (P j) ps[j].ps.length (C j))) ∧
        ∀ w2, Below W.heap.size W w2 → Calls Tryz.prog 163 #[courseV co x, .slice (P j) ps[j].ps.length (C j)] w2 fun e w3 => e = .returned (.bool (ptsR co.mats.length ps[j].ps)) ∧ Below w2.heap.size w2 w3) := Lib.hid fun w' hb' j hj => by
      have hbb := hW.trans (hb'.mono hW.size)
      obtain ⟨a0, a1, a2⟩ := hcell j hj
      exact ⟨⟨(hb (by rintro rfl; simp at hj)).1, keepc hbb a0, keepc hbb a1, keepc hbb a2⟩, fun w2 h2 => ih j hj w2 (hW.trans (h2.mono hW.size))⟩
    have hCs : (cellsC co x).toArray.size = 16 := rfl
    clear ih hsub hcell hb hW hT
    unfold courseV at *
    generalize (cellsC co x).toArray = cs at *
    have hA := (Below.refl W.heap.size W).alloc (Nat.le_refl _) (.cells cs 33)
    have HA := Lib.hid hA
    have HLd : Hid (∀ w', Below (W.alloc (.cells cs 33)).heap.size (W.alloc (.cells cs 33)) w' → (Instr.loadAt 33 (.pointer (some ⟨W.heap.size, 0, none⟩))).run Tryz.prog w' = .ok (.agg cs) w') := Lib.hid fun w' hb => ld_keep hCs hb
    have HWW : Hid (∀ w', Below (W.alloc (.cells cs 33)).heap.size (W.alloc (.cells cs 33)) w' → Below W.heap.size W w') := Lib.hid fun w' hb => hA.trans (hb.mono hA.size)
    have HB0 := Lib.hid (Below.refl (W.alloc (.cells cs 33)).heap.size (W.alloc (.cells cs 33)))
    clear hA
    go_enter Tryz.func163, Tryz.ntmps163
    go_wp2_with fail
    go_loopw [5] (fun i wr => ∃ j : Nat, j ≤ ps.length ∧ i = .int .i64 j ∧ Hid (ptsR co.mats.length (ps.drop j) = T) ∧ Hid (Below (W.alloc (.cells cs 33)).heap.size (W.alloc (.cells cs 33)) wr)) (fun i _ => ps.length - (intOf i).toNat)
    case atStart => exact ⟨0, Nat.zero_le _, rfl, H0, HB0⟩
    case round =>
      obtain ⟨j, hj, rfl, HI, HB⟩ := hrel
      clear H0 HA HB0
      by_cases hlt : j < ps.length
      · have hji : (j : Int) < (ps.length : Int) := by omega
        obtain ⟨⟨rfl, a0, a1, a2⟩, hcall⟩ := HE.out _ (HWW.out _ HB.out) j hlt
        have hI := HI.out
        rw [(List.getElem_cons_drop hlt).symm, ptsR] at hI
        have HCC := Lib.hid hcall
        clear hcall HE HI
        generalize ps[j] = pj at *
        generalize P j = Pj at *
        generalize C j = Cj at *
        obtain ⟨a, l, sub⟩ := pj
        simp only [Pt.m, Pt.l, Pt.ps] at *
        generalize hk0 : sub.length = k at *
        have HBA := Lib.hid (HB.out.alloc HB.out.size (.cells #[.int .i64 a, .int .i64 l, .slice Pj k Cj] 105))
        have ld := Lib.hid (HLd.out _ HBA.out)
        have HX : Hid (∀ V, V = wr.alloc (.cells #[.int .i64 a, .int .i64 l, .slice Pj k Cj] 105) → ∀ w', Below V.heap.size V w' → Below (W.alloc (.cells cs 33)).heap.size (W.alloc (.cells cs 33)) w' ∧ w'.cell? ⟨wr.heap.size, 0, none⟩ = some (.int .i64 a) ∧ w'.cell? ⟨wr.heap.size, 1, none⟩ = some (.int .i64 l) ∧ w'.cell? ⟨wr.heap.size, 2, none⟩ = some (.slice Pj k Cj)) := Lib.hid fun V e w' hb => by
          subst e
          exact ⟨HBA.out.trans (hb.mono HBA.out.size), keepc hb (by simp [go_sem]), keepc hb (by simp [go_sem]), keepc hb (by simp [go_sem])⟩
        by_cases hl0 : l = 0
        · subst hl0
          rw [ptR_z, hk0] at hI
          have NI0 : Hid (∀ W, Calls Tryz.prog 97 #[.int .i64 0, .int .i64 1, .int .i64 64] W fun e w' => e = .returned (.bool false) ∧ Below W.heap.size W w') := Lib.hid fun W => NI.out 0 W
          have NM0 := Lib.hid (NM.out a)
          clear NM NI HCC
          generalize inI 0 ((co.mats.length : Int) - 1) a = q1 at *
          clear hk0
          cases q1 with
          | false =>
            have hT : T = false := by rw [← hI]; rfl
            subst hT
            clear hI
            go_wp2_with (first
              | (refine wpList_loadW (ty := 33) (x := .tmp 2) rfl rfl rfl ld.out ?_)
              | (go_at_call 98; (with_reducible refine (NM0.out _).mono ?_); rintro e w5 ⟨rfl, hb⟩; have hv5 := hb; obtain ⟨hc5, y5_0, y5_1, y5_2⟩ := HX.out _ rfl w5 hv5; skip; have HC5 := Lib.hid hc5; clear hb hc5)
              | (go_at_call 97; (with_reducible refine (NI0.out _).mono ?_); rintro e w6 ⟨rfl, hb⟩; have hv6 := hv5.trans (hb.mono hv5.size); obtain ⟨hc6, y6_0, y6_1, y6_2⟩ := HX.out _ rfl w6 hv6; skip; have HC6 := Lib.hid hc6; clear hb hc6))
            go_ret
            exact ⟨rfl, HWW.out _ HC6.out⟩
          | true =>
            by_cases hk : k = 0
            · subst hk
              have HI2 : Hid (ptsR co.mats.length (ps.drop (j + 1)) = T) := Lib.hid (by rw [← hI]; rfl)
              clear hI
              go_wp2_with (first
                | (refine wpList_loadW (ty := 33) (x := .tmp 2) rfl rfl rfl ld.out ?_)
                | (go_at_call 98; (with_reducible refine (NM0.out _).mono ?_); rintro e w5 ⟨rfl, hb⟩; have hv5 := hb; obtain ⟨hc5, y5_0, y5_1, y5_2⟩ := HX.out _ rfl w5 hv5; skip; have HC5 := Lib.hid hc5; clear hb hc5)
                | (go_at_call 97; (with_reducible refine (NI0.out _).mono ?_); rintro e w6 ⟨rfl, hb⟩; have hv6 := hv5.trans (hb.mono hv5.size); obtain ⟨hc6, y6_0, y6_1, y6_2⟩ := HX.out _ rfl w6 hv6; skip; have HC6 := Lib.hid hc6; clear hb hc6))
              go_round
              case rel => exact ⟨j + 1, by omega, by go_num, HI2, HC6⟩
              case measure => simp [intOf]; omega
            · have hk2 : ((k : Int) == 0) = false := by simpa using hk
              have hT : T = false := by rw [← hI, decide_eq_false hk]; rfl
              subst hT
              clear hI hk
              go_wp2_with (first
                | (refine wpList_loadW (ty := 33) (x := .tmp 2) rfl rfl rfl ld.out ?_)
                | (go_at_call 98; (with_reducible refine (NM0.out _).mono ?_); rintro e w5 ⟨rfl, hb⟩; have hv5 := hb; obtain ⟨hc5, y5_0, y5_1, y5_2⟩ := HX.out _ rfl w5 hv5; skip; have HC5 := Lib.hid hc5; clear hb hc5)
                | (go_at_call 97; (with_reducible refine (NI0.out _).mono ?_); rintro e w6 ⟨rfl, hb⟩; have hv6 := hv5.trans (hb.mono hv5.size); obtain ⟨hc6, y6_0, y6_1, y6_2⟩ := HX.out _ rfl w6 hv6; skip; have HC6 := Lib.hid hc6; clear hb hc6))
              go_ret
              exact ⟨rfl, HWW.out _ HC6.out⟩
        · rw [ptR_l _ _ _ _ hl0, hk0] at hI
          have hl2 : (l == 0) = false := by simpa using hl0
          have NI0 := Lib.hid (NI.out l)
          clear NM NI hl0 hk0
          generalize inI 1 64 l = q2 at *
          generalize ptsR co.mats.length sub = q3 at *
          cases q2 with
          | false =>
            have hT : T = false := by rw [← hI]; rfl
            subst hT
            clear hI
            go_wp2_with (first
              | (go_at_call 97; (with_reducible refine (NI0.out _).mono ?_); rintro e w5 ⟨rfl, hb⟩; have hv5 := hb; obtain ⟨hc5, y5_0, y5_1, y5_2⟩ := HX.out _ rfl w5 hv5; have ld5 := Lib.hid (HLd.out _ hc5); have HC5 := Lib.hid hc5; clear hb hc5))
            go_ret
            exact ⟨rfl, HWW.out _ HC5.out⟩
          | true =>
            by_cases ha : a = 0
            · subst ha
              by_cases hk : k = 0
              · subst hk
                have hT : T = false := by rw [← hI]; rfl
                subst hT
                clear hI
                go_wp2_with (first
                  | (go_at_call 97; (with_reducible refine (NI0.out _).mono ?_); rintro e w5 ⟨rfl, hb⟩; have hv5 := hb; obtain ⟨hc5, y5_0, y5_1, y5_2⟩ := HX.out _ rfl w5 hv5; have ld5 := Lib.hid (HLd.out _ hc5); have HC5 := Lib.hid hc5; clear hb hc5))
                go_ret
                exact ⟨rfl, HWW.out _ HC5.out⟩
              · have hk2 : 0 < k := by omega
                rw [decide_eq_false hk] at hI
                clear hk
                cases q3 with
                | false =>
                  have hT : T = false := by rw [← hI]; rfl
                  subst hT
                  clear hI
                  go_wp2_with (first
                    | (go_at_call 97; (with_reducible refine (NI0.out _).mono ?_); rintro e w5 ⟨rfl, hb⟩; have hv5 := hb; obtain ⟨hc5, y5_0, y5_1, y5_2⟩ := HX.out _ rfl w5 hv5; have ld5 := Lib.hid (HLd.out _ hc5); have HC5 := Lib.hid hc5; clear hb hc5)
                    | (refine wpList_loadW (ty := 33) (x := .tmp 2) rfl rfl rfl ld5.out ?_)
                    | (go_at_call 163; (with_reducible refine (HCC.out _ (HWW.out _ HC5.out)).mono ?_); rintro e w6 ⟨rfl, hb⟩; have hv6 := hv5.trans (hb.mono hv5.size); obtain ⟨hc6, y6_0, y6_1, y6_2⟩ := HX.out _ rfl w6 hv6; skip; have HC6 := Lib.hid hc6; clear hb hc6))
                  go_ret
                  exact ⟨rfl, HWW.out _ HC6.out⟩
                | true =>
                  have HI2 : Hid (ptsR co.mats.length (ps.drop (j + 1)) = T) := Lib.hid (by rw [← hI]; rfl)
                  clear hI
                  go_wp2_with (first
                    | (go_at_call 97; (with_reducible refine (NI0.out _).mono ?_); rintro e w5 ⟨rfl, hb⟩; have hv5 := hb; obtain ⟨hc5, y5_0, y5_1, y5_2⟩ := HX.out _ rfl w5 hv5; have ld5 := Lib.hid (HLd.out _ hc5); have HC5 := Lib.hid hc5; clear hb hc5)
                    | (refine wpList_loadW (ty := 33) (x := .tmp 2) rfl rfl rfl ld5.out ?_)
                    | (go_at_call 163; (with_reducible refine (HCC.out _ (HWW.out _ HC5.out)).mono ?_); rintro e w6 ⟨rfl, hb⟩; have hv6 := hv5.trans (hb.mono hv5.size); obtain ⟨hc6, y6_0, y6_1, y6_2⟩ := HX.out _ rfl w6 hv6; skip; have HC6 := Lib.hid hc6; clear hb hc6))
                  go_round
                  case rel => exact ⟨j + 1, by omega, by go_num, HI2, HC6⟩
                  case measure => simp [intOf]; omega
            · have ha2 : (a == 0) = false := by simpa using ha
              have hT : T = false := by rw [← hI, ha2]; rfl
              subst hT
              clear hI ha
              go_wp2_with (first
                | (go_at_call 97; (with_reducible refine (NI0.out _).mono ?_); rintro e w5 ⟨rfl, hb⟩; have hv5 := hb; obtain ⟨hc5, y5_0, y5_1, y5_2⟩ := HX.out _ rfl w5 hv5; have ld5 := Lib.hid (HLd.out _ hc5); have HC5 := Lib.hid hc5; clear hb hc5))
              go_ret
              exact ⟨rfl, HWW.out _ HC5.out⟩
      · have hji : ¬ (j : Int) < (ps.length : Int) := by omega
        have hT : T = true := by
          have := HI.out
          rw [List.drop_of_length_le (by omega), ptsR] at this
          exact this.symm
        subst hT
        clear HE HI
        go_wp2_with fail
        go_ret
        exact ⟨rfl, HWW.out _ HB.out⟩
end Go.Proofs.YtabdgnigmlpeaaaGreatDoor
/- The specification: the numbers of a distance. -/
namespace Go.Proofs.YtabdgnigmlpeaaaGreatDoor
open Go.RowKit

set_option maxHeartbeats 16000000 in
set_option maxRecDepth 100000 in
theorem rdist_any (co : Crs) (x : CLoc) (hm : co.mats.length ≤ 1000000000) {w : World} {Q : Nat → Prop} {d : DistD} {y : DLoc} (h : DistIn w Q d y) (W : World) (hW : Below w.heap.size w W) :
    Calls Tryz.prog 99 #[courseV co x, distV d y] W fun e w' => e = .returned (.bool (distR co.mats.length d)) ∧ Below W.heap.size W w' := by
  obtain ⟨T, hT⟩ : ∃ T, distR co.mats.length d = T := ⟨_, rfl⟩
  rw [hT]
  obtain ⟨TC, hTC⟩ : ∃ TC, d.cs.all (cutR co.mats.length) = TC := ⟨_, rfl⟩
  have HT : Hid (T = (TC && (inI 1 3 d.t && (ptsR co.mats.length d.r && (d.x == -1 || inI 0 ((co.mats.length : Int) - 1) d.x))))) := Lib.hid (by
    rw [← hT, ← hTC]
    unfold distR
    cases d.cs.all (cutR co.mats.length) <;> simp)
  have H0 : Hid ((d.cs.drop 0).all (cutR co.mats.length) = TC) := Lib.hid (by rw [List.drop_zero]; exact hTC)
  have NM : Hid (∀ a W, Calls Tryz.prog 98 #[courseV co x, .int .i64 a] W fun e w' => e = .returned (.bool (inI 0 ((co.mats.length : Int) - 1) a)) ∧ Below W.heap.size W w') := Lib.hid fun a W => rmat_any co x a hm W
  have NI : Hid (∀ a lo hi W, Calls Tryz.prog 97 #[.int .i64 a, .int .i64 lo, .int .i64 hi] W fun e w' => e = .returned (.bool (inI lo hi a)) ∧ Below W.heap.size W w') := Lib.hid fun a lo hi W => rbet_any a lo hi W
  have NP : Hid (∀ w', Below W.heap.size W w' → Calls Tryz.prog 163 #[courseV co x, .slice y.pr d.r.length y.cr] w' fun e w2 => e = .returned (.bool (ptsR co.mats.length d.r)) ∧ Below w'.heap.size w' w2) := Lib.hid fun w' hw => rpartly_any co x hm h.route w' (hW.trans (hw.mono hW.size))
  have hCs : (cellsC co x).toArray.size = 16 := rfl
  obtain ⟨b, off, hL, hcell⟩ := h.cuts
  have hdl : d.cs.length ≤ 6000000000000 := hL.hl
  have HE : Hid (∀ w', Below W.heap.size W w' → ∀ j (h : j < d.cs.length), y.pc = some ⟨b, off, none⟩ ∧ w'.cell? ⟨b, off + j * 3, none⟩ = some (.int .i64 d.cs[j].m) ∧ w'.cell? ⟨b, off + j * 3 + 1, none⟩ = some (.int .i64 d.cs[j].l) ∧ w'.cell? ⟨b, off + j * 3 + 2, none⟩ = some (.int .i64 d.cs[j].li)) := Lib.hid fun w' hb j hj => by
    have hbb := hW.trans (hb.mono hW.size)
    exact ⟨(hL.hb (by omega)).1, keepc hbb (hcell j hj 0 _ rfl), keepc hbb (hcell j hj 1 _ rfl), keepc hbb (hcell j hj 2 _ rfl)⟩
  clear h hL hcell hW hT hTC
  unfold courseV distV DistD.cells at *
  generalize (cellsC co x).toArray = cs at *
  have hA1 := (Below.refl W.heap.size W).alloc (Nat.le_refl _) (.cells cs 33)
  have hA2 := (Below.refl (W.alloc (.cells cs 33)).heap.size (W.alloc (.cells cs 33))).alloc (Nat.le_refl _) (.cells #[.string d.n, .slice y.pr d.r.length y.cr, .int .i64 d.t, .slice y.pc d.cs.length y.cc, .int .i64 d.x] 66)
  have HWW : Hid (∀ w', Below ((W.alloc (.cells cs 33)).alloc (.cells #[.string d.n, .slice y.pr d.r.length y.cr, .int .i64 d.t, .slice y.pc d.cs.length y.cc, .int .i64 d.x] 66)).heap.size ((W.alloc (.cells cs 33)).alloc (.cells #[.string d.n, .slice y.pr d.r.length y.cr, .int .i64 d.t, .slice y.pc d.cs.length y.cc, .int .i64 d.x] 66)) w' → Below W.heap.size W w') := Lib.hid fun w' hb => hA1.trans ((hA2.trans (hb.mono hA2.size)).mono hA1.size)
  have HF : Hid (∀ w', Below ((W.alloc (.cells cs 33)).alloc (.cells #[.string d.n, .slice y.pr d.r.length y.cr, .int .i64 d.t, .slice y.pc d.cs.length y.cc, .int .i64 d.x] 66)).heap.size ((W.alloc (.cells cs 33)).alloc (.cells #[.string d.n, .slice y.pr d.r.length y.cr, .int .i64 d.t, .slice y.pc d.cs.length y.cc, .int .i64 d.x] 66)) w' → (Instr.loadAt 33 (.pointer (some ⟨W.heap.size, 0, none⟩))).run Tryz.prog w' = .ok (.agg cs) w' ∧ w'.cell? ⟨W.heap.size + 1, 1, none⟩ = some (.slice y.pr d.r.length y.cr) ∧ w'.cell? ⟨W.heap.size + 1, 2, none⟩ = some (.int .i64 d.t) ∧ w'.cell? ⟨W.heap.size + 1, 3, none⟩ = some (.slice y.pc d.cs.length y.cc) ∧ w'.cell? ⟨W.heap.size + 1, 4, none⟩ = some (.int .i64 d.x)) := Lib.hid fun w' hb =>
    ⟨ld_keep hCs (hA2.trans (hb.mono hA2.size)), keepc hb (by simp [go_sem]), keepc hb (by simp [go_sem]), keepc hb (by simp [go_sem]), keepc hb (by simp [go_sem])⟩
  have HB0 := Lib.hid (Below.refl ((W.alloc (.cells cs 33)).alloc (.cells #[.string d.n, .slice y.pr d.r.length y.cr, .int .i64 d.t, .slice y.pc d.cs.length y.cc, .int .i64 d.x] 66)).heap.size ((W.alloc (.cells cs 33)).alloc (.cells #[.string d.n, .slice y.pr d.r.length y.cr, .int .i64 d.t, .slice y.pc d.cs.length y.cc, .int .i64 d.x] 66)))
  clear hA1 hA2
  obtain ⟨dn, dr, dt, dc, dx⟩ := d
  obtain ⟨pr, cr, pc, cc⟩ := y
  simp only at *
  generalize hrl : dr.length = rl at *
  clear hrl
  go_enter Tryz.func99, Tryz.ntmps99
  go_wp2_with fail
  go_loopw [5] (fun i wr => ∃ j : Nat, j ≤ dc.length ∧ i = .int .i64 j ∧ Hid ((dc.drop j).all (cutR co.mats.length) = TC) ∧ Hid (Below ((W.alloc (.cells cs 33)).alloc (.cells #[.string dn, .slice pr rl cr, .int .i64 dt, .slice pc dc.length cc, .int .i64 dx] 66)).heap.size ((W.alloc (.cells cs 33)).alloc (.cells #[.string dn, .slice pr rl cr, .int .i64 dt, .slice pc dc.length cc, .int .i64 dx] 66)) wr)) (fun i _ => dc.length - (intOf i).toNat)
  case atStart => exact ⟨0, Nat.zero_le _, rfl, H0, HB0⟩
  case round =>
    obtain ⟨j, hj, rfl, HI, HB⟩ := hrel
    clear H0 HB0
    obtain ⟨ld0, f1, f2, f3, f4⟩ := HF.out _ HB.out
    have HL0 := Lib.hid ld0
    clear ld0
    by_cases hlt : j < dc.length
    · have hji : (j : Int) < (dc.length : Int) := by omega
      obtain ⟨rfl, a0, a1, a2⟩ := HE.out _ (HWW.out _ HB.out) j hlt
      have hI := HI.out
      rw [(List.getElem_cons_drop hlt).symm, List.all_cons] at hI
      clear HE HI NP
      generalize dc[j] = z at *
      obtain ⟨zm, zl, zi⟩ := z
      have hcr : cutR co.mats.length ⟨zm, zl, zi⟩ = (inI 0 ((co.mats.length : Int) - 1) zm && (decide (1 ≤ zl) && inI 0 1099511627776 zi)) := rfl
      rw [hcr] at hI
      clear hcr
      simp only at *
      have NM0 := Lib.hid (NM.out zm)
      have NI0 := Lib.hid (NI.out zi 0 1099511627776)
      clear NM NI
      generalize inI 0 ((co.mats.length : Int) - 1) zm = q1 at *
      generalize inI 0 1099511627776 zi = q2 at *
      have HBA := Lib.hid (HB.out.alloc HB.out.size (.cells #[.int .i64 zm, .int .i64 zl, .int .i64 zi] 74))
      have HLA := Lib.hid (HF.out _ HBA.out).1
      have HX : Hid (∀ V, V = wr.alloc (.cells #[.int .i64 zm, .int .i64 zl, .int .i64 zi] 74) → ∀ w', Below V.heap.size V w' → Below ((W.alloc (.cells cs 33)).alloc (.cells #[.string dn, .slice pr rl cr, .int .i64 dt, .slice (some ⟨b, off, none⟩) dc.length cc, .int .i64 dx] 66)).heap.size ((W.alloc (.cells cs 33)).alloc (.cells #[.string dn, .slice pr rl cr, .int .i64 dt, .slice (some ⟨b, off, none⟩) dc.length cc, .int .i64 dx] 66)) w' ∧ w'.cell? ⟨wr.heap.size, 1, none⟩ = some (.int .i64 zl) ∧ w'.cell? ⟨wr.heap.size, 2, none⟩ = some (.int .i64 zi)) := Lib.hid fun V e w' hb => by
        subst e
        exact ⟨HBA.out.trans (hb.mono HBA.out.size), keepc hb (by simp [go_sem]), keepc hb (by simp [go_sem])⟩
      cases q1 with
      | false =>
        have hTC : TC = false := by rw [← hI]; rfl
        subst hTC
        have hT : T = false := HT.out
        subst hT
        clear hI HT
        go_wp2_with (first
          | go_skip
          | (refine wpList_loadW (ty := 33) (x := .tmp 2) rfl rfl rfl HLA.out ?_)
          | (go_at_call 98; (with_reducible refine (NM0.out _).mono ?_); rintro e w5 ⟨rfl, hb⟩; have hv5 := hb; obtain ⟨hc5, y5_1, y5_2⟩ := HX.out _ rfl w5 hv5; have HC5 := Lib.hid hc5; clear hb hc5))
        go_ret
        exact ⟨rfl, HWW.out _ HC5.out⟩
      | true =>
        by_cases hl : 1 ≤ zl
        · have hl2 : ¬ zl < 1 := by omega
          cases q2 with
          | false =>
            have hTC : TC = false := by rw [← hI, decide_eq_true hl]; rfl
            subst hTC
            have hT : T = false := HT.out
            subst hT
            clear hI HT hl
            go_wp2_with (first
              | go_skip
              | (refine wpList_loadW (ty := 33) (x := .tmp 2) rfl rfl rfl HLA.out ?_)
              | (go_at_call 98; (with_reducible refine (NM0.out _).mono ?_); rintro e w5 ⟨rfl, hb⟩; have hv5 := hb; obtain ⟨hc5, y5_1, y5_2⟩ := HX.out _ rfl w5 hv5; have HC5 := Lib.hid hc5; clear hb hc5)
              | (go_at_call 97; (with_reducible refine (NI0.out _).mono ?_); rintro e w6 ⟨rfl, hb⟩; have hv6 := hv5.trans (hb.mono hv5.size); obtain ⟨hc6, -, -⟩ := HX.out _ rfl w6 hv6; have HC6 := Lib.hid hc6; clear hb hc6))
            go_ret
            exact ⟨rfl, HWW.out _ HC6.out⟩
          | true =>
            have HI2 : Hid ((dc.drop (j + 1)).all (cutR co.mats.length) = TC) := Lib.hid (by rw [← hI, decide_eq_true hl]; rfl)
            clear hI hl
            go_wp2_with (first
              | go_skip
              | (refine wpList_loadW (ty := 33) (x := .tmp 2) rfl rfl rfl HLA.out ?_)
              | (go_at_call 98; (with_reducible refine (NM0.out _).mono ?_); rintro e w5 ⟨rfl, hb⟩; have hv5 := hb; obtain ⟨hc5, y5_1, y5_2⟩ := HX.out _ rfl w5 hv5; have HC5 := Lib.hid hc5; clear hb hc5)
              | (go_at_call 97; (with_reducible refine (NI0.out _).mono ?_); rintro e w6 ⟨rfl, hb⟩; have hv6 := hv5.trans (hb.mono hv5.size); obtain ⟨hc6, -, -⟩ := HX.out _ rfl w6 hv6; have HC6 := Lib.hid hc6; clear hb hc6))
            go_round
            case rel => exact ⟨j + 1, by omega, by go_num, HI2, HC6⟩
            case measure => simp [intOf]; omega
        · have hl2 : zl < 1 := by omega
          have hTC : TC = false := by rw [← hI, decide_eq_false hl]; rfl
          subst hTC
          have hT : T = false := HT.out
          subst hT
          clear hI HT hl
          go_wp2_with (first
            | go_skip
            | (refine wpList_loadW (ty := 33) (x := .tmp 2) rfl rfl rfl HLA.out ?_)
            | (go_at_call 98; (with_reducible refine (NM0.out _).mono ?_); rintro e w5 ⟨rfl, hb⟩; have hv5 := hb; obtain ⟨hc5, y5_1, y5_2⟩ := HX.out _ rfl w5 hv5; have HC5 := Lib.hid hc5; clear hb hc5))
          go_ret
          exact ⟨rfl, HWW.out _ HC5.out⟩
    · have hji : ¬ (j : Int) < (dc.length : Int) := by omega
      have hTC : TC = true := by
        have := HI.out
        rw [List.drop_of_length_le (by omega)] at this
        exact this.symm
      subst hTC
      have hI := HT.out
      rw [Bool.true_and] at hI
      have NI0 := Lib.hid (NI.out dt 1 3)
      have NM0 := Lib.hid (NM.out dx)
      clear HE HI HT NI NM
      generalize inI 1 3 dt = q1 at *
      generalize ptsR co.mats.length dr = q2 at *
      generalize inI 0 ((co.mats.length : Int) - 1) dx = q3 at *
      cases q1 with
      | false =>
        have hT : T = false := by rw [hI]; rfl
        subst hT
        clear hI
        go_wp2_with (first
          | go_skip
          | (go_at_call 97; (with_reducible refine (NI0.out _).mono ?_); rintro e w5 ⟨rfl, hb⟩; have HC5 := Lib.hid (HB.out.trans (hb.mono HB.out.size)); obtain ⟨ld5, z5_1, z5_2, z5_3, z5_4⟩ := HF.out _ HC5.out; have HL5 := Lib.hid ld5; clear ld5 hb))
        go_ret
        exact ⟨rfl, HWW.out _ HC5.out⟩
      | true =>
        cases q2 with
        | false =>
          have hT : T = false := by rw [hI]; rfl
          subst hT
          clear hI
          go_wp2_with (first
            | go_skip
            | (go_at_call 97; (with_reducible refine (NI0.out _).mono ?_); rintro e w5 ⟨rfl, hb⟩; have HC5 := Lib.hid (HB.out.trans (hb.mono HB.out.size)); obtain ⟨ld5, z5_1, z5_2, z5_3, z5_4⟩ := HF.out _ HC5.out; have HL5 := Lib.hid ld5; clear ld5 hb)
            | (refine wpList_loadW (ty := 33) (x := .tmp 2) rfl rfl rfl HL5.out ?_)
            | (go_at_call 163; (with_reducible refine (NP.out _ (HWW.out _ HC5.out)).mono ?_); rintro e w6 ⟨rfl, hb⟩; have HC6 := Lib.hid (HC5.out.trans (hb.mono HC5.out.size)); obtain ⟨ld6, z6_1, z6_2, z6_3, z6_4⟩ := HF.out _ HC6.out; have HL6 := Lib.hid ld6; clear ld6 hb))
          go_ret
          exact ⟨rfl, HWW.out _ HC6.out⟩
        | true =>
          by_cases hx : dx = -1
          · subst hx
            have hT : T = true := by rw [hI]; rfl
            subst hT
            clear hI
            go_wp2_with (first
              | go_skip
              | (go_at_call 97; (with_reducible refine (NI0.out _).mono ?_); rintro e w5 ⟨rfl, hb⟩; have HC5 := Lib.hid (HB.out.trans (hb.mono HB.out.size)); obtain ⟨ld5, z5_1, z5_2, z5_3, z5_4⟩ := HF.out _ HC5.out; have HL5 := Lib.hid ld5; clear ld5 hb)
              | (refine wpList_loadW (ty := 33) (x := .tmp 2) rfl rfl rfl HL5.out ?_)
              | (go_at_call 163; (with_reducible refine (NP.out _ (HWW.out _ HC5.out)).mono ?_); rintro e w6 ⟨rfl, hb⟩; have HC6 := Lib.hid (HC5.out.trans (hb.mono HC5.out.size)); obtain ⟨ld6, z6_1, z6_2, z6_3, z6_4⟩ := HF.out _ HC6.out; have HL6 := Lib.hid ld6; clear ld6 hb))
            go_ret
            exact ⟨rfl, HWW.out _ HC6.out⟩
          · have hx2 : (dx == -1) = false := by simpa using hx
            rw [hx2] at hI
            clear hx
            have hT : T = q3 := by rw [hI]; rfl
            subst hT
            clear hI
            go_wp2_with (first
              | go_skip
              | (go_at_call 97; (with_reducible refine (NI0.out _).mono ?_); rintro e w5 ⟨rfl, hb⟩; have HC5 := Lib.hid (HB.out.trans (hb.mono HB.out.size)); obtain ⟨ld5, z5_1, z5_2, z5_3, z5_4⟩ := HF.out _ HC5.out; have HL5 := Lib.hid ld5; clear ld5 hb)
              | (refine wpList_loadW (ty := 33) (x := .tmp 2) rfl rfl rfl HL5.out ?_)
              | (go_at_call 163; (with_reducible refine (NP.out _ (HWW.out _ HC5.out)).mono ?_); rintro e w6 ⟨rfl, hb⟩; have HC6 := Lib.hid (HC5.out.trans (hb.mono HC5.out.size)); obtain ⟨ld6, z6_1, z6_2, z6_3, z6_4⟩ := HF.out _ HC6.out; have HL6 := Lib.hid ld6; clear ld6 hb)
              | (refine wpList_loadW (ty := 33) (x := .tmp 2) rfl rfl rfl HL6.out ?_)
              | (go_at_call 98; (with_reducible refine (NM0.out _).mono ?_); rintro e w7 ⟨rfl, hb⟩; have HC7 := Lib.hid (HC6.out.trans (hb.mono HC6.out.size)); obtain ⟨ld7, z7_1, z7_2, z7_3, z7_4⟩ := HF.out _ HC7.out; have HL7 := Lib.hid ld7; clear ld7 hb))
            go_ret
            exact ⟨rfl, HWW.out _ HC7.out⟩
end Go.Proofs.YtabdgnigmlpeaaaGreatDoor
/- The specification: the depth and the number of parts. -/
namespace Go.Proofs.YtabdgnigmlpeaaaGreatDoor
open Go.RowKit

theorem depP_eq (m : Nat) (p : Pt) : depP m p = if p.ps.isEmpty then 0 else 1 + depL m 0 p.ps := by
  obtain ⟨a, l, ps⟩ := p
  rw [depP]; rfl
set_option maxHeartbeats 4000000 in
set_option maxRecDepth 100000 in
theorem rdepth_any {w0 : World} {Q : Nat → Prop} {c : Pt} {p : Option Addr} {cap : Nat} (h : PtIn w0 Q c p cap) : ∀ (W : World) (m : Nat), Below w0.heap.size w0 W → m ≤ 17 →
    Calls Tryz.prog 36 #[.slice p c.ps.length cap, .int .i64 (m : Int)] W fun e w' => e = .returned (.int .i64 (depL m 0 c.ps : Nat)) ∧ Below W.heap.size W w' := by
  induction h with
  | mk m0 l0 ps p cap b off P C hl hc hc2 hp hb hcell hsub ih =>
    intro W m hW hm
    show Calls Tryz.prog 36 #[.slice p ps.length cap, .int .i64 (m : Int)] W fun e w' => e = .returned (.int .i64 (depL m 0 ps : Nat)) ∧ Below W.heap.size W w'
    obtain ⟨T, hT⟩ : ∃ T, depL m 0 ps = T := ⟨_, rfl⟩
    rw [hT]
    have H0 : Hid (depL m 0 (ps.drop 0) = T) := Lib.hid (by rw [List.drop_zero]; exact hT)
    have HB0 := Lib.hid (Below.refl W.heap.size W)
    have HE : Hid (∀ w', Below W.heap.size W w' → ∀ j (h : j < ps.length), (p = some ⟨b, off, none⟩ ∧ w'.cell? ⟨b, off + j * 3 + 2, none⟩ = some (.slice (P j) ps[j].ps.length (C j))) ∧
        ∀ m2 : Nat, m2 ≤ 17 → Calls Tryz.prog 36 #[.slice (P j) ps[j].ps.length (C j), .int .i64 (m2 : Int)] w' fun e w2 => e = .returned (.int .i64 (depL m2 0 ps[j].ps : Nat)) ∧ Below w'.heap.size w' w2) := Lib.hid fun w' hb' j hj => by
      have hbb := hW.trans (hb'.mono hW.size)
      obtain ⟨a0, a1, a2⟩ := hcell j hj
      exact ⟨⟨(hb (by rintro rfl; simp at hj)).1, keepc hbb a2⟩, fun m2 h2 => ih j hj w' m2 hbb h2⟩
    clear ih hsub hcell hb hW hT
    go_enter Tryz.func36, Tryz.ntmps36
    go_wp2_with fail
    go_loopw [5, 6] (fun nv i wr => ∃ j n : Nat, j ≤ ps.length ∧ i = .int .i64 j ∧ nv = .int .i64 n ∧ Hid (depL m n (ps.drop j) = T) ∧ Hid (n ≤ 20) ∧ Hid (Below W.heap.size W wr)) (fun _ i _ => ps.length - (intOf i).toNat)
    case atStart => exact ⟨0, 0, Nat.zero_le _, rfl, rfl, H0, Lib.hid (by omega), HB0⟩
    case round =>
      obtain ⟨j, n, hj, rfl, rfl, HI, HM, HB⟩ := hrel
      clear H0 HB0
      by_cases hlt : j < ps.length
      · have hji : (j : Int) < (ps.length : Int) := by omega
        by_cases hm0 : m = 0
        · subst hm0
          have hT : T = n := by
            have := HI.out
            rw [depL_zero] at this
            exact this.symm
          subst hT
          clear HE HI HM
          go_wp2_with fail
          go_ret
          exact ⟨rfl, HB.out⟩
        · have hmi : (0 : Int) < (m : Int) := by omega
          obtain ⟨⟨rfl, a2⟩, hcall⟩ := HE.out _ HB.out j hlt
          have hI := HI.out
          rw [(List.getElem_cons_drop hlt).symm, depL, if_neg hm0, depP_eq] at hI
          have hx := depL_max ps[j].ps (m - 1) 0
          have HCC := Lib.hid (hcall (m - 1) (by omega))
          have hms : ((m - 1 : Nat) : Int) = (m : Int) - 1 := by omega
          rw [hms] at HCC
          have hpe : ps[j].ps.isEmpty = decide (ps[j].ps.length = 0) := by cases ps[j].ps <;> simp
          rw [hpe] at hI
          have hm1 : IntKind.i64.wrap ((m : Int) - 1) = (m : Int) - 1 := IntWalk.i64_in _ (by omega)
          clear hcall HE HI hm0 hms hpe
          generalize depL (m - 1) 0 ps[j].ps = d at *
          generalize ps[j].ps.length = k at *
          by_cases hk : k = 0
          · subst hk
            have HI2 : Hid (depL m n (ps.drop (j + 1)) = T) := Lib.hid (by simpa using hI)
            clear hI
            go_wp2_with fail
            go_round
            case rel => exact ⟨j + 1, n, by omega, by go_num, rfl, HI2, HM, HB⟩
            case measure => simp [intOf]; omega
          · have hk2 : ((k : Int) != 0) = true := by simpa using hk
            have HI2 : Hid (depL m (max n (1 + d)) (ps.drop (j + 1)) = T) := Lib.hid (by rw [decide_eq_false hk] at hI; simpa using hI)
            have hn := HM.out
            clear hI hk
            go_wp2_with (go_at_call 36; (with_reducible refine HCC.out.mono ?_); rintro e w2 ⟨rfl, hb⟩; have HB2 := Lib.hid (HB.out.trans (hb.mono HB.out.size)); clear hb)
            go_round
            case rel => exact ⟨j + 1, max n (1 + d), by omega, by go_num, by simp only [Value.int.injEq, true_and]; omega, HI2, Lib.hid (by omega), HB2⟩
            case measure => simp [intOf]; omega
      · have hji : ¬ (j : Int) < (ps.length : Int) := by omega
        have hT : T = n := by
          have := HI.out
          rw [List.drop_of_length_le (by omega), depL] at this
          exact this.symm
        subst hT
        clear HE HI HM
        go_wp2_with fail
        go_ret
        exact ⟨rfl, HB.out⟩
def cntP (l : List Pt) : Nat := min (cnL l.length l) 257
theorem cnP_ps (p : Pt) : cnP p = cntP p.ps := by
  obtain ⟨a, l, ps⟩ := p
  rw [cnP]; rfl
set_option maxHeartbeats 4000000 in
set_option maxRecDepth 100000 in
theorem rcnt_any {w0 : World} {Q : Nat → Prop} {c : Pt} {p : Option Addr} {cap : Nat} (h : PtIn w0 Q c p cap) : ∀ (W : World), Below w0.heap.size w0 W →
    Calls Tryz.prog 35 #[.slice p c.ps.length cap] W fun e w' => e = .returned (.int .i64 (cntP c.ps : Nat)) ∧ Below W.heap.size W w' := by
  induction h with
  | mk m0 l0 ps p cap b off P C hl hc hc2 hp hb hcell hsub ih =>
    intro W hW
    show Calls Tryz.prog 35 #[.slice p ps.length cap] W fun e w' => e = .returned (.int .i64 (cntP ps : Nat)) ∧ Below W.heap.size W w'
    obtain ⟨T, hT⟩ : ∃ T, cnL ps.length ps = T := ⟨_, rfl⟩
    unfold cntP
    rw [hT]
    have H0 : Hid (cnL ps.length (ps.drop 0) = T) := Lib.hid (by rw [List.drop_zero]; exact hT)
    have HB0 := Lib.hid (Below.refl W.heap.size W)
    have HE : Hid (∀ w', Below W.heap.size W w' → ∀ j (h : j < ps.length), (p = some ⟨b, off, none⟩ ∧ w'.cell? ⟨b, off + j * 3 + 2, none⟩ = some (.slice (P j) ps[j].ps.length (C j))) ∧
        Calls Tryz.prog 35 #[.slice (P j) ps[j].ps.length (C j)] w' fun e w2 => e = .returned (.int .i64 (cntP ps[j].ps : Nat)) ∧ Below w'.heap.size w' w2) := Lib.hid fun w' hb' j hj => by
      have hbb := hW.trans (hb'.mono hW.size)
      obtain ⟨a0, a1, a2⟩ := hcell j hj
      exact ⟨⟨(hb (by rintro rfl; simp at hj)).1, keepc hbb a2⟩, ih j hj w' hbb⟩
    clear ih hsub hcell hb hW hT
    go_enter Tryz.func35, Tryz.ntmps35
    go_wp2_with fail
    go_loopw [3, 4] (fun nv i wr => ∃ j n : Nat, j ≤ ps.length ∧ i = .int .i64 j ∧ nv = .int .i64 n ∧ Hid (cnL n (ps.drop j) = T) ∧ Hid (n ≤ 6000000001000) ∧ Hid (Below W.heap.size W wr)) (fun _ i _ => ps.length - (intOf i).toNat)
    case atStart => exact ⟨0, ps.length, Nat.zero_le _, rfl, rfl, H0, Lib.hid (by omega), HB0⟩
    case round =>
      obtain ⟨j, n, hj, rfl, rfl, HI, HM, HB⟩ := hrel
      clear H0 HB0
      have hn := HM.out
      by_cases hlt : j < ps.length
      · have hji : (j : Int) < (ps.length : Int) := by omega
        by_cases hn2 : n ≤ 256
        · have hni : (n : Int) ≤ 256 := by omega
          obtain ⟨⟨rfl, a2⟩, hcall⟩ := HE.out _ HB.out j hlt
          have hI := HI.out
          rw [(List.getElem_cons_drop hlt).symm, cnL, if_pos hn2, cnP_ps] at hI
          have hx : cntP ps[j].ps ≤ 257 := by unfold cntP; omega
          have HCC := Lib.hid hcall
          have HI2 := Lib.hid hI
          clear hcall HE HI hI
          generalize cntP ps[j].ps = d at *
          generalize ps[j].ps.length = k at *
          go_wp2_with (go_at_call 35; (with_reducible refine HCC.out.mono ?_); rintro e w2 ⟨rfl, hb⟩; have HB2 := Lib.hid (HB.out.trans (hb.mono HB.out.size)); clear hb)
          go_round
          case rel => exact ⟨j + 1, n + d, by omega, by go_num, by go_num, HI2, Lib.hid (by omega), HB2⟩
          case measure => simp [intOf]; omega
        · have hni : ¬ (n : Int) ≤ 256 := by omega
          have hT : T = n := by
            have := HI.out
            rw [(List.getElem_cons_drop hlt).symm, cnL, if_neg hn2] at this
            exact this.symm
          subst hT
          clear HE HI HM
          by_cases ht : T ≤ 257
          · have hti : (T : Int) ≤ 257 := by omega
            have HMN : Hid (((min T 257 : Nat) : Int) = (T : Int)) := Lib.hid (by omega)
            go_wp2_with fail
            go_ret
            exact ⟨by first | rfl | (rw [HMN.out]; rfl), HB.out⟩
          · have hti : ¬ (T : Int) ≤ 257 := by omega
            have HMN : Hid (((min T 257 : Nat) : Int) = 257) := Lib.hid (by omega)
            go_wp2_with fail
            go_ret
            exact ⟨by first | rfl | (rw [HMN.out]; rfl), HB.out⟩
      · have hji : ¬ (j : Int) < (ps.length : Int) := by omega
        have hT : T = n := by
          have := HI.out
          rw [List.drop_of_length_le (by omega), cnL] at this
          exact this.symm
        subst hT
        clear HE HI HM
        by_cases ht : T ≤ 257
        · have hti : (T : Int) ≤ 257 := by omega
          have HMN : Hid (((min T 257 : Nat) : Int) = (T : Int)) := Lib.hid (by omega)
          go_wp2_with fail
          go_ret
          exact ⟨by first | rfl | (rw [HMN.out]; rfl), HB.out⟩
        · have hti : ¬ (T : Int) ≤ 257 := by omega
          have HMN : Hid (((min T 257 : Nat) : Int) = 257) := Lib.hid (by omega)
          go_wp2_with fail
          go_ret
          exact ⟨by first | rfl | (rw [HMN.out]; rfl), HB.out⟩
end Go.Proofs.YtabdgnigmlpeaaaGreatDoor
/- The specification: the lists of a course are not too long. -/
namespace Go.Proofs.YtabdgnigmlpeaaaGreatDoor
open Go.RowKit

theorem limD_eq (d : DistD) : limD d = (decide (d.cs.length ≤ 64) && (decide (depL 17 0 d.r ≤ 16) && decide (cntP d.r ≤ 256))) := by
  unfold limD
  rw [limL_eq]
  rfl
set_option maxHeartbeats 16000000 in
set_option maxRecDepth 100000 in
theorem rcounts_any {w : World} {Q : Nat → Prop} {c : Crs} {x : CLoc} (h : CourseIn w Q c x) (W : World) (hW : Below w.heap.size w W) :
    Calls Tryz.prog 41 #[courseV c x] W fun e w' => e = .returned (.bool (limE c)) ∧ Below W.heap.size W w' := by
  have hA := (Below.refl W.heap.size W).alloc (Nat.le_refl _) (.cells (cellsC c x).toArray 33)
  have HA := Lib.hid hA
  obtain ⟨es, hes, ⟨b, off, hL, hcell⟩, hdi⟩ := h.dists
  have hln : c.dists.length = es.length := by rw [← hes, List.length_map]
  obtain ⟨TC, hTC⟩ : ∃ TC, c.dists.all limD = TC := ⟨_, rfl⟩
  have H0 : Hid (((es.drop 0).map (·.1)).all limD = TC) := Lib.hid (by rw [List.drop_zero, hes]; exact hTC)
  have HE : Hid (∀ w', Below W.heap.size W w' → ∀ j (h : j < es.length), (x.pd = some ⟨b, off, none⟩ ∧ w'.cell? ⟨b, off + j * 5, none⟩ = some (.string es[j].1.n) ∧ w'.cell? ⟨b, off + j * 5 + 1, none⟩ = some (.slice es[j].2.pr es[j].1.r.length es[j].2.cr) ∧ w'.cell? ⟨b, off + j * 5 + 2, none⟩ = some (.int .i64 es[j].1.t) ∧ w'.cell? ⟨b, off + j * 5 + 3, none⟩ = some (.slice es[j].2.pc es[j].1.cs.length es[j].2.cc) ∧ w'.cell? ⟨b, off + j * 5 + 4, none⟩ = some (.int .i64 es[j].1.x)) ∧
      (∀ w2, Below W.heap.size W w2 → Calls Tryz.prog 36 #[.slice es[j].2.pr es[j].1.r.length es[j].2.cr, .int .i64 17] w2 fun e w3 => e = .returned (.int .i64 (depL 17 0 es[j].1.r : Nat)) ∧ Below w2.heap.size w2 w3) ∧
      (∀ w2, Below W.heap.size W w2 → Calls Tryz.prog 35 #[.slice es[j].2.pr es[j].1.r.length es[j].2.cr] w2 fun e w3 => e = .returned (.int .i64 (cntP es[j].1.r : Nat)) ∧ Below w2.heap.size w2 w3)) := Lib.hid fun w' hb j hj => by
    have hbb := hW.trans (hb.mono hW.size)
    exact ⟨⟨(hL.hb (by omega)).1, keepc hbb (hcell j hj 0 _ rfl), keepc hbb (hcell j hj 1 _ rfl), keepc hbb (hcell j hj 2 _ rfl), keepc hbb (hcell j hj 3 _ rfl), keepc hbb (hcell j hj 4 _ rfl)⟩, fun w2 h2 => rdepth_any (hdi j hj).route w2 17 (hW.trans (h2.mono hW.size)) (by omega), fun w2 h2 => rcnt_any (hdi j hj).route w2 (hW.trans (h2.mono hW.size))⟩
  have hel : es.length ≤ 6000000000000 := hL.hl
  have g1 : (cellsC c x).toArray[1]? = some (.slice x.pm c.mats.length x.cm) := rfl
  have g2 : (cellsC c x).toArray[2]? = some (.slice x.pl c.legs.length x.cl) := rfl
  have g3 : (cellsC c x).toArray[3]? = some (.slice x.pd c.dists.length x.cd) := rfl
  have g4 : (cellsC c x).toArray[4]? = some (.slice x.pw c.waves.length x.cw) := rfl
  have g5 : (cellsC c x).toArray[5]? = some (.slice x.po c.offs.length x.co) := rfl
  have g6 : (cellsC c x).toArray[6]? = some (.slice x.pc c.cats.length x.cc) := rfl
  have g7 : (cellsC c x).toArray[7]? = some (.slice x.pz c.prizes.length x.cz) := rfl
  have HF : Hid (∀ w', Below (W.alloc (.cells (cellsC c x).toArray 33)).heap.size (W.alloc (.cells (cellsC c x).toArray 33)) w' → w'.cell? ⟨W.heap.size, 3, none⟩ = some (.slice x.pd c.dists.length x.cd)) := Lib.hid fun w' hb => keepc hb (by simp [cellsC, go_sem])
  have HWW : Hid (∀ w', Below (W.alloc (.cells (cellsC c x).toArray 33)).heap.size (W.alloc (.cells (cellsC c x).toArray 33)) w' → Below W.heap.size W w') := Lib.hid fun w' hb => hA.trans (hb.mono hA.size)
  have HB0 := Lib.hid (Below.refl (W.alloc (.cells (cellsC c x).toArray 33)).heap.size (W.alloc (.cells (cellsC c x).toArray 33)))
  clear h hW hA hL hcell hdi hes
  unfold limE
  rw [hTC]
  clear hTC
  unfold courseV at *
  generalize (cellsC c x).toArray = cs at *
  rw [hln] at *
  obtain ⟨pm, cm, pl, cl, pd, cd, pw, cw, po, co, pc, cc, pz, cz, pt, ct⟩ := x
  simp only at *
  generalize c.mats.length = n1 at *
  generalize c.legs.length = n2 at *
  generalize c.waves.length = n4 at *
  generalize c.offs.length = n5 at *
  generalize c.cats.length = n6 at *
  generalize c.prizes.length = n7 at *
  by_cases h1 : n1 ≤ 40
  · have k1 : ¬ (40 : Int) < (n1 : Int) := by omega
    have d1 := decide_eq_true h1
    by_cases h2 : n2 ≤ 512
    · have k2 : ¬ (512 : Int) < (n2 : Int) := by omega
      have d2 := decide_eq_true h2
      by_cases h3 : es.length ≤ 8
      · have k3 : ¬ (8 : Int) < (es.length : Int) := by omega
        have d3 := decide_eq_true h3
        by_cases h4 : n4 ≤ 32
        · have k4 : ¬ (32 : Int) < (n4 : Int) := by omega
          have d4 := decide_eq_true h4
          by_cases h5 : n5 ≤ 32
          · have k5 : ¬ (32 : Int) < (n5 : Int) := by omega
            have d5 := decide_eq_true h5
            by_cases h6 : n6 ≤ 32
            · have k6 : ¬ (32 : Int) < (n6 : Int) := by omega
              have d6 := decide_eq_true h6
              by_cases h7 : n7 ≤ 32
              · have k7 : ¬ (32 : Int) < (n7 : Int) := by omega
                have d7 := decide_eq_true h7
                rw [d1, d2, d3, d4, d5, d6, d7]
                simp only [Bool.true_and]
                clear d1 d2 d3 d4 d5 d6 d7 h1 h2 h4 h5 h6 h7
                go_enter Tryz.func41, Tryz.ntmps41
                go_wp2_with fail
                clear k1 k2 k3 k4 k5 k6 k7 g1 g2 g3 g4 g5 g6 g7
                go_loopw [3] (fun i wr => ∃ j : Nat, j ≤ es.length ∧ i = .int .i64 j ∧ Hid (((es.drop j).map (·.1)).all limD = TC) ∧ Hid (Below (W.alloc (.cells cs 33)).heap.size (W.alloc (.cells cs 33)) wr)) (fun i _ => es.length - (intOf i).toNat)
                case atStart => exact ⟨0, Nat.zero_le _, rfl, H0, HB0⟩
                case round =>
                  obtain ⟨j, hj, rfl, HI, HB⟩ := hrel
                  clear H0 HB0
                  have f3 := HF.out _ HB.out
                  by_cases hlt : j < es.length
                  · have hji : (j : Int) < (es.length : Int) := by omega
                    obtain ⟨⟨rfl, a0, a1, a2, a3, a4⟩, hdep, hcnt⟩ := HE.out _ (HWW.out _ HB.out) j hlt
                    have hI := HI.out
                    rw [(List.getElem_cons_drop hlt).symm, List.map_cons, List.all_cons, limD_eq] at hI
                    have HDep := Lib.hid hdep
                    have HCnt := Lib.hid hcnt
                    clear HE HI hdep hcnt
                    generalize es[j] = z at *
                    obtain ⟨⟨dn, dr, dt, dc, dx⟩, ⟨pr, cr, pc2, cc2⟩⟩ := z
                    simp only at *
                    generalize depL 17 0 dr = dp at *
                    generalize cntP dr = cp at *
                    generalize dr.length = rl at *
                    generalize dc.length = dl at *
                    have HBA := Lib.hid (HB.out.alloc HB.out.size (.cells #[.string dn, .slice pr rl cr, .int .i64 dt, .slice pc2 dl cc2, .int .i64 dx] 66))
                    have HX : Hid (∀ V, V = wr.alloc (.cells #[.string dn, .slice pr rl cr, .int .i64 dt, .slice pc2 dl cc2, .int .i64 dx] 66) → ∀ w', Below V.heap.size V w' → Below (W.alloc (.cells cs 33)).heap.size (W.alloc (.cells cs 33)) w' ∧ w'.cell? ⟨wr.heap.size, 1, none⟩ = some (.slice pr rl cr)) := Lib.hid fun V e w' hb => by
                      subst e
                      exact ⟨HBA.out.trans (hb.mono HBA.out.size), keepc hb (by simp [go_sem])⟩
                    by_cases h1 : dl ≤ 64
                    · have k1 : ¬ (64 : Int) < (dl : Int) := by omega
                      by_cases h2 : dp ≤ 16
                      · have k2 : ¬ (16 : Int) < (dp : Int) := by omega
                        by_cases h3 : cp ≤ 256
                        · have k3 : ¬ (256 : Int) < (cp : Int) := by omega
                          have HI2 : Hid (((es.drop (j + 1)).map (·.1)).all limD = TC) := Lib.hid (by rw [← hI, decide_eq_true h1, decide_eq_true h2, decide_eq_true h3]; rfl)
                          clear hI h1 h2 h3
                          go_wp2_with (first | go_skip | (go_at_call 36; (with_reducible refine (HDep.out _ (HWW.out _ HBA.out)).mono ?_); rintro e w5 ⟨rfl, hb⟩; have hv5 := hb; obtain ⟨hc5, y5⟩ := HX.out _ rfl w5 hv5; have HC5 := Lib.hid hc5; clear hb hc5) | (go_at_call 35; (with_reducible refine (HCnt.out _ (HWW.out _ HC5.out)).mono ?_); rintro e w6 ⟨rfl, hb⟩; have hv6 := hv5.trans (hb.mono hv5.size); obtain ⟨hc6, -⟩ := HX.out _ rfl w6 hv6; have HC6 := Lib.hid hc6; clear hb hc6))
                          go_round
                          case rel => exact ⟨j + 1, by omega, by go_num, HI2, HC6⟩
                          case measure => simp [intOf]; omega
                        · have k3 : (256 : Int) < (cp : Int) := by omega
                          have hTC : TC = false := by rw [← hI, decide_eq_false h3]; simp
                          subst hTC
                          clear hI h1 h2 h3
                          go_wp2_with (first | go_skip | (go_at_call 36; (with_reducible refine (HDep.out _ (HWW.out _ HBA.out)).mono ?_); rintro e w5 ⟨rfl, hb⟩; have hv5 := hb; obtain ⟨hc5, y5⟩ := HX.out _ rfl w5 hv5; have HC5 := Lib.hid hc5; clear hb hc5) | (go_at_call 35; (with_reducible refine (HCnt.out _ (HWW.out _ HC5.out)).mono ?_); rintro e w6 ⟨rfl, hb⟩; have hv6 := hv5.trans (hb.mono hv5.size); obtain ⟨hc6, -⟩ := HX.out _ rfl w6 hv6; have HC6 := Lib.hid hc6; clear hb hc6))
                          go_ret
                          exact ⟨rfl, HWW.out _ HC6.out⟩
                      · have k2 : (16 : Int) < (dp : Int) := by omega
                        have hTC : TC = false := by rw [← hI, decide_eq_false h2]; simp
                        subst hTC
                        clear hI h1 h2
                        go_wp2_with (first | go_skip | (go_at_call 36; (with_reducible refine (HDep.out _ (HWW.out _ HBA.out)).mono ?_); rintro e w5 ⟨rfl, hb⟩; have hv5 := hb; obtain ⟨hc5, y5⟩ := HX.out _ rfl w5 hv5; have HC5 := Lib.hid hc5; clear hb hc5))
                        go_ret
                        exact ⟨rfl, HWW.out _ HC5.out⟩
                    · have k1 : (64 : Int) < (dl : Int) := by omega
                      have hTC : TC = false := by rw [← hI, decide_eq_false h1]; rfl
                      subst hTC
                      clear hI h1
                      go_wp2_with fail
                      go_ret
                      exact ⟨rfl, HWW.out _ HBA.out⟩
                  · have hji : ¬ (j : Int) < (es.length : Int) := by omega
                    have hTC : TC = true := by
                      have := HI.out
                      rw [List.drop_of_length_le (by omega)] at this
                      exact this.symm
                    subst hTC
                    clear HE HI
                    go_wp2_with fail
                    go_ret
                    exact ⟨rfl, HWW.out _ HB.out⟩
              · have k7 : (32 : Int) < (n7 : Int) := by omega
                have hq := decide_eq_false h7
                have HQ : Hid ((decide (n1 ≤ 40) && (decide (n2 ≤ 512) && (decide (es.length ≤ 8) && (decide (n4 ≤ 32) && (decide (n5 ≤ 32) && (decide (n6 ≤ 32) && (decide (n7 ≤ 32) && TC))))))) = false) := Lib.hid (by rw [hq]; simp)
                rw [HQ.out]
                clear hq d1 d2 d3 d4 d5 d6 h1 h2 h3 h4 h5 h6 h7
                go_enter Tryz.func41, Tryz.ntmps41
                go_wp2_with fail
                go_ret
                exact ⟨rfl, HA.out⟩
            · have k6 : (32 : Int) < (n6 : Int) := by omega
              have hq := decide_eq_false h6
              have HQ : Hid ((decide (n1 ≤ 40) && (decide (n2 ≤ 512) && (decide (es.length ≤ 8) && (decide (n4 ≤ 32) && (decide (n5 ≤ 32) && (decide (n6 ≤ 32) && (decide (n7 ≤ 32) && TC))))))) = false) := Lib.hid (by rw [hq]; simp)
              rw [HQ.out]
              clear hq d1 d2 d3 d4 d5 h1 h2 h3 h4 h5 h6
              go_enter Tryz.func41, Tryz.ntmps41
              go_wp2_with fail
              go_ret
              exact ⟨rfl, HA.out⟩
          · have k5 : (32 : Int) < (n5 : Int) := by omega
            have hq := decide_eq_false h5
            have HQ : Hid ((decide (n1 ≤ 40) && (decide (n2 ≤ 512) && (decide (es.length ≤ 8) && (decide (n4 ≤ 32) && (decide (n5 ≤ 32) && (decide (n6 ≤ 32) && (decide (n7 ≤ 32) && TC))))))) = false) := Lib.hid (by rw [hq]; simp)
            rw [HQ.out]
            clear hq d1 d2 d3 d4 h1 h2 h3 h4 h5
            go_enter Tryz.func41, Tryz.ntmps41
            go_wp2_with fail
            go_ret
            exact ⟨rfl, HA.out⟩
        · have k4 : (32 : Int) < (n4 : Int) := by omega
          have hq := decide_eq_false h4
          have HQ : Hid ((decide (n1 ≤ 40) && (decide (n2 ≤ 512) && (decide (es.length ≤ 8) && (decide (n4 ≤ 32) && (decide (n5 ≤ 32) && (decide (n6 ≤ 32) && (decide (n7 ≤ 32) && TC))))))) = false) := Lib.hid (by rw [hq]; simp)
          rw [HQ.out]
          clear hq d1 d2 d3 h1 h2 h3 h4
          go_enter Tryz.func41, Tryz.ntmps41
          go_wp2_with fail
          go_ret
          exact ⟨rfl, HA.out⟩
      · have k3 : (8 : Int) < (es.length : Int) := by omega
        have hq := decide_eq_false h3
        have HQ : Hid ((decide (n1 ≤ 40) && (decide (n2 ≤ 512) && (decide (es.length ≤ 8) && (decide (n4 ≤ 32) && (decide (n5 ≤ 32) && (decide (n6 ≤ 32) && (decide (n7 ≤ 32) && TC))))))) = false) := Lib.hid (by rw [hq]; simp)
        rw [HQ.out]
        clear hq d1 d2 h1 h2 h3
        go_enter Tryz.func41, Tryz.ntmps41
        go_wp2_with fail
        go_ret
        exact ⟨rfl, HA.out⟩
    · have k2 : (512 : Int) < (n2 : Int) := by omega
      have hq := decide_eq_false h2
      have HQ : Hid ((decide (n1 ≤ 40) && (decide (n2 ≤ 512) && (decide (es.length ≤ 8) && (decide (n4 ≤ 32) && (decide (n5 ≤ 32) && (decide (n6 ≤ 32) && (decide (n7 ≤ 32) && TC))))))) = false) := Lib.hid (by rw [hq]; simp)
      rw [HQ.out]
      clear hq d1 h1 h2
      go_enter Tryz.func41, Tryz.ntmps41
      go_wp2_with fail
      go_ret
      exact ⟨rfl, HA.out⟩
  · have k1 : (40 : Int) < (n1 : Int) := by omega
    have hq := decide_eq_false h1
    have HQ : Hid ((decide (n1 ≤ 40) && (decide (n2 ≤ 512) && (decide (es.length ≤ 8) && (decide (n4 ≤ 32) && (decide (n5 ≤ 32) && (decide (n6 ≤ 32) && (decide (n7 ≤ 32) && TC))))))) = false) := Lib.hid (by rw [hq]; simp)
    rw [HQ.out]
    clear hq  h1
    go_enter Tryz.func41, Tryz.ntmps41
    go_wp2_with fail
    go_ret
    exact ⟨rfl, HA.out⟩
end Go.Proofs.YtabdgnigmlpeaaaGreatDoor
