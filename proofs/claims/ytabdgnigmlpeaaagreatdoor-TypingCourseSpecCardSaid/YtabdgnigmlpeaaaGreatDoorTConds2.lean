/- conditionsOf. -/
import Derived.Test.YtabdgnigmlpeaaaGreatDoorTConds
import Derived.Test.YtabdgnigmlpeaaaGreatDoorTRead
namespace Go.Proofs.YtabdgnigmlpeaaaGreatDoor
open Go.RowKit

/-- What stands in the loops of conditionsOf. -/
structure CSt (w wr : World) (Q : Nat → Prop) (v : Value) (es : List El) (L : List Cd) : Prop where
  own : OwnC wr w.heap.size Q v es
  map : es.map (·.1) = L
  bel : Below w.heap.size w wr
theorem CSt.len {w wr : World} {Q : Nat → Prop} {v : Value} {es : List El} {L : List Cd} (h : CSt w wr Q v es L) : es.length = L.length := by rw [← h.map, List.length_map]
theorem CSt.on {w wr w' : World} {Q : Nat → Prop} {v : Value} {es : List El} {L : List Cd} (h : CSt w wr Q v es L) (hb : Below wr.heap.size wr w') : CSt w w' Q v es L := ⟨h.own.bel hb, h.map, h.bel.trans (hb.mono h.bel.size)⟩
/-- What conditionsOf comes to. -/
def CondsR (w : World) (Q : Nat → Prop) (L : List Cd) (e : Ending) (w' : World) : Prop :=
  ∃ es p cap, e = .returned (.slice p L.length cap) ∧ es.map (·.1) = L ∧ OwnC w' w.heap.size Q (.slice p L.length cap) es ∧ Below w.heap.size w w'
def CondsAt (W : World) (Q : Nat → Prop) (l : List St) (p : Option Addr) (cap : Nat) : Prop :=
  ∀ W', Below W.heap.size W W' → Calls Tryz.prog 108 #[.slice p l.length cap] W' (CondsR W' Q (condsOfs l))
theorem condsOfs_len : ∀ l : List St, (condsOfs l).length ≤ szSs l := by
  have h : (∀ s : St, (condsOf s).length ≤ szS s) := fun s => St.rec (motive_1 := fun s => (condsOf s).length ≤ szS s) (motive_2 := fun l => (condsOfs l).length ≤ szSs l)
    (fun k b c th el h1 h2 => by
      rw [condsOf, szS, List.length_append, List.length_append]
      have : (if noB c = true then [] else [c]).length ≤ 1 := by split <;> simp
      omega)
    (by simp [condsOfs, szSs])
    (fun s l h1 h2 => by rw [condsOfs, szSs, List.length_append]; omega) s
  intro l
  induction l with
  | nil => simp [condsOfs, szSs]
  | cons s l ih => rw [condsOfs, szSs, List.length_append]; have := h s; omega
theorem condsOf_eq (s : St) : condsOf s = (if noB s.c = true then [] else [s.c]) ++ (condsOfs s.th ++ condsOfs s.el) := by
  obtain ⟨k, b, c, th, el⟩ := s
  rw [condsOf]; rfl
theorem szSs_get : ∀ (l : List St) (i : Nat) (h : i < l.length), szS l[i] ≤ szSs l
  | [], i, h => by simp at h
  | s :: l, 0, _ => by rw [szSs]; simp
  | s :: l, i + 1, h => by
    have := szSs_get l i (by simpa using h)
    rw [szSs]
    simp only [List.getElem_cons_succ]
    omega
theorem szS_eq (s : St) : szS s = 1 + szSs s.th + szSs s.el := by cases s; rw [szS]; rfl
theorem condsOfs_take (l : List St) (j : Nat) (h : j < l.length) : condsOfs (l.take (j + 1)) = condsOfs (l.take j) ++ condsOf l[j] := by
  rw [List.take_succ_eq_append_getElem h, condsOfs_append, condsOfs, condsOfs, List.append_nil]
theorem condsOfs_take_len (l : List St) (j : Nat) : (condsOfs (l.take j)).length ≤ (condsOfs l).length := by
  have h := congrArg List.length (congrArg condsOfs (List.take_append_drop j l))
  rw [condsOfs_append, List.length_append] at h
  omega

/-- What stands in the inner loop. -/
structure InSt (w wq : World) (Q : Nat → Prop) (v : Value) (es : List El) (L : List Cd) (a : Nat) (PP : Nat → Option Addr) (LL : Nat → List St) (CC : Nat → Nat) : Prop where
  st : CSt w wq Q v es L
  cells : ∀ m, m < 2 → wq.cell? ⟨a, m, none⟩ = some (.slice (PP m) (LL m).length (CC m))
  ne : some a ≠ v.ownBlock
theorem InSt.start {w w2 w3 : World} {Q : Nat → Prop} {v : Value} {es : List El} {L1 : List Cd} {LS : Nat → List Cd} {a : Nat} {PP : Nat → Option Addr} {LL : Nat → List St} {CC : Nat → Nat} (h : CSt w w2 Q v es L1) (h0 : LS 0 = []) (hb : Below w2.heap.size w2 w3)
    (b0 : w3.cell? ⟨a, 0, none⟩ = some (.slice (PP 0) (LL 0).length (CC 0))) (b1 : w3.cell? ⟨a, 1, none⟩ = some (.slice (PP 1) (LL 1).length (CC 1))) (ha : w2.heap.size ≤ a) : InSt w w3 Q v es (L1 ++ LS 0) a PP LL CC := by
  refine ⟨by rw [h0, List.append_nil]; exact h.on hb, fun m hm => ?_, fun e => by have := (h.own.lt a e.symm).2; omega⟩
  match m, hm with
  | 0, _ => exact b0
  | 1, _ => exact b1
theorem InSt.same {w w4 : World} {Q : Nat → Prop} {v : Value} {es2 : List El} {L1 : List Cd} {LS : Nat → List Cd} {m a : Nat} {PP : Nat → Option Addr} {LL : Nat → List St} {CC : Nat → Nat} (hs : CSt w w4 Q v es2 (L1 ++ LS m))
    (hc : ∀ m, m < 2 → w4.cell? ⟨a, m, none⟩ = some (.slice (PP m) (LL m).length (CC m))) (ha : some a ≠ v.ownBlock) (hLS : LS (m + 1) = LS m ++ condsOfs (LL m)) (hz : (condsOfs (LL m)).length = 0) : InSt w w4 Q v es2 (L1 ++ LS (m + 1)) a PP LL CC :=
  ⟨by rw [hLS, List.length_eq_zero_iff.1 hz, List.append_nil]; exact hs, hc, ha⟩
theorem CSt.push1 {w w1 w2 : World} {Q : Nat → Prop} {v : Value} {es : List El} {L0 L1 : List Cd} {c : Cd} {pc : Option Addr} {cc g cap' : Nat} (hs : CSt w w1 Q v es L0) (ho : OwnC w2 w.heap.size Q (.slice (some ⟨g, 0, none⟩) (es.length + 1) cap') (es ++ [(c, pc, cc)])) (hg : w1.grownBy w2 v.ownBlock) (hL : L0 ++ [c] = L1) :
    CSt w w2 Q (.slice (some ⟨g, 0, none⟩) (es.length + 1) cap') (es ++ [(c, pc, cc)]) L1 :=
  ⟨ho, by rw [List.map_append, hs.map, ← hL]; rfl, below_grown hs.bel hg fun k hk => (hs.own.lt k hk).1⟩
theorem four_cells (w : World) (a b s : Int) (sl : Value) : ∀ j u, ([.int .i64 a, .int .i64 b, .int .i64 s, sl] : List Value)[j]? = some u → (w.alloc (.cells #[.int .i64 a, .int .i64 b, .int .i64 s, sl] 40)).cell? ((⟨w.heap.size, 0, none⟩ : Addr).add j) = some u := by
  intro j u hj
  match j, hj with
  | 0, hj => simp at hj; subst hj; simp [Addr.add]
  | 1, hj => simp at hj; subst hj; simp [Addr.add]
  | 2, hj => simp at hj; subst hj; simp [Addr.add]
  | 3, hj => simp at hj; subst hj; simp [Addr.add]
  | j + 4, hj => simp at hj
theorem InSt.push {w w4 w5 : World} {Q : Nat → Prop} {v : Value} {es2 es3 : List El} {L1 : List Cd} {LS : Nat → List Cd} {m a g cap' ln : Nat} {PP : Nat → Option Addr} {LL : Nat → List St} {CC : Nat → Nat} (hs : CSt w w4 Q v es2 (L1 ++ LS m))
    (hc : ∀ m, m < 2 → w4.cell? ⟨a, m, none⟩ = some (.slice (PP m) (LL m).length (CC m))) (ha : some a ≠ v.ownBlock) (ho : OwnC w5 w.heap.size Q (.slice (some ⟨g, 0, none⟩) (es2.length + ln) cap') (es2 ++ es3)) (hg : w4.grownBy w5 v.ownBlock) (hat : v.ownBlock = some g ∨ g = w4.heap.size)
    (hmap : es3.map (·.1) = condsOfs (LL m)) (hLS : LS (m + 1) = LS m ++ condsOfs (LL m)) :
    InSt w w5 Q (.slice (some ⟨g, 0, none⟩) (es2.length + ln) cap') (es2 ++ es3) (L1 ++ LS (m + 1)) a PP LL CC := by
  have hal : a < w4.heap.size := World.block_lt_of_cell? _ _ (hc 0 (by omega))
  refine ⟨⟨ho, by rw [List.map_append, hs.map, hmap, hLS, List.append_assoc], below_grown hs.bel hg fun k hk => (hs.own.lt k hk).1⟩, fun m hm => (World.cell?_of_block (a := ⟨a, m, none⟩) (hg.block a hal ha)).trans (hc m hm), fun e => ?_⟩
  have : a = g := by simpa [Value.ownBlock] using e
  subst this
  rcases hat with h | h
  · exact ha h.symm
  · omega
set_option maxHeartbeats 8000000 in
set_option maxRecDepth 100000 in
theorem conds_loop (ss : List St) (p : Option Addr) (cap b off : Nat) (X : Nat → Loc) (Q : Nat → Prop) (hb : ss ≠ [] → p = some ⟨b, off, none⟩) (hl : ss.length ≤ 6000000000000) (w : World) (hQ : ∀ b, Q b → b < w.heap.size) (hfew : szSs ss ≤ 100000)
    (hcell : ∀ W, Below w.heap.size w W → ∀ i (h : i < ss.length), ∀ j u, (cellsS ss[i] (X i))[j]? = some u → W.cell? ⟨b, off + i * 8 + j, none⟩ = some u)
    (hcd : ∀ W, Below w.heap.size w W → ∀ i (h : i < ss.length), CdIn W Q ss[i].c (X i).pc (X i).cc)
    (h1 : ∀ W, Below w.heap.size w W → ∀ i (h : i < ss.length), CondsAt W Q ss[i].th (X i).pt (X i).ct)
    (h2 : ∀ W, Below w.heap.size w W → ∀ i (h : i < ss.length), CondsAt W Q ss[i].el (X i).pe (X i).ce) :
    Calls Tryz.prog 108 #[.slice p ss.length cap] w (CondsR w Q (condsOfs ss)) := by
  have HC := Lib.hid hcell
  have HCd := Lib.hid hcd
  have HT1 := Lib.hid h1
  have HT2 := Lib.hid h2
  have HB := Lib.hid hb
  have HQ := Lib.hid hQ
  obtain ⟨infoC, hinfoC⟩ := infoCd_some
  have H0 : Hid (CSt w w Q (.slice none 0 0) [] (condsOfs (ss.take 0))) := Lib.hid ⟨OwnC.start _ _ _, by rw [List.take_zero, condsOfs]; rfl, Below.refl _ _⟩
  clear hcell hcd h1 h2 hb hQ
  go_enter Tryz.func108, Tryz.ntmps108
  go_wp2_with fail
  go_loopw [2, 9] (fun v i wr => ∃ (j : Nat) (es : List El), j ≤ ss.length ∧ i = .int .i64 j ∧ Hid (CSt w wr Q v es (condsOfs (ss.take j)))) (fun _ i _ => ss.length - (intOf i).toNat)
  case atStart => exact ⟨0, [], Nat.zero_le _, rfl, H0⟩
  case round =>
    obtain ⟨j, es, hj, rfl, HL⟩ := hrel
    clear H0
    by_cases hlt : j < ss.length
    · have hji : (j : Int) < (ss.length : Int) := by omega
      obtain rfl := HB.out (by rintro rfl; simp at hlt)
      have hcc := HC.out wr HL.out.bel j hlt
      have a0 := hcc 0 _ rfl
      have a1 := hcc 1 _ rfl
      have a2 := hcc 2 _ rfl
      have a3 := hcc 3 _ rfl
      have a4 := hcc 4 _ rfl
      have a5 := hcc 5 _ rfl
      have a6 := hcc 6 _ rfl
      have a7 := hcc 7 _ rfl
      clear hcc
      rw [Nat.add_zero] at a0
      have hA := (Below.refl wr.heap.size wr).alloc (Nat.le_refl _) (.cells #[.int .i64 ss[j].k, .int .i64 ss[j].b, .int .i64 ss[j].c.k, .int .i64 ss[j].c.v, .int .i64 ss[j].c.n, .slice (X j).pc ss[j].c.ps.length (X j).cc, .slice (X j).pt ss[j].th.length (X j).ct, .slice (X j).pe ss[j].el.length (X j).ce] 84)
      have HA := Lib.hid hA
      have HN : Hid (∀ W, Calls Tryz.prog 175 #[.agg #[.int .i64 ss[j].c.k, .int .i64 ss[j].c.v, .int .i64 ss[j].c.n, .slice (X j).pc ss[j].c.ps.length (X j).cc]] W fun e w' => e = .returned (.bool (noB ss[j].c)) ∧ Below W.heap.size W w') := Lib.hid fun W => noCond_any ss[j].c (X j).pc (X j).cc W
      have HLs : Hid (∀ W, Calls Tryz.prog 107 #[.agg #[.int .i64 ss[j].k, .int .i64 ss[j].b, .int .i64 ss[j].c.k, .int .i64 ss[j].c.v, .int .i64 ss[j].c.n, .slice (X j).pc ss[j].c.ps.length (X j).cc, .slice (X j).pt ss[j].th.length (X j).ct, .slice (X j).pe ss[j].el.length (X j).ce]] W fun e w' => ∃ a, e = .returned (.slice (some ⟨a, 0, none⟩) 2 2) ∧ (w'.cell? ⟨a, 0, none⟩ = some (.slice (X j).pt ss[j].th.length (X j).ct) ∧ w'.cell? ⟨a, 1, none⟩ = some (.slice (X j).pe ss[j].el.length (X j).ce)) ∧ W.heap.size ≤ a ∧ Below W.heap.size W w') := Lib.hid fun W => lists_any ss[j] (X j) W
      have HD := Lib.hid (fun W h => HCd.out W h j hlt)
      have HR1 := Lib.hid (fun W h => HT1.out W h j hlt)
      have HR2 := Lib.hid (fun W h => HT2.out W h j hlt)
      have HT : Hid (condsOfs (ss.take (j + 1)) = condsOfs (ss.take j) ++ ((if noB ss[j].c = true then [] else [ss[j].c]) ++ (condsOfs ss[j].th ++ condsOfs ss[j].el))) := Lib.hid (by rw [condsOfs_take ss j hlt, condsOf_eq])
      have hlen : (condsOfs (ss.take (j + 1))).length ≤ 100000 := Nat.le_trans (condsOfs_take_len ss _) (Nat.le_trans (condsOfs_len ss) hfew)
      have hlen2 := hlen
      rw [HT.out] at hlen2
      simp only [List.length_append] at hlen2
      have hel := HL.out.len
      have HLn := Lib.hid hel
      have HLn2 := Lib.hid hlen2
      clear HC HCd HT1 HT2 HB hA hel hlen2 hlen
      obtain ⟨PP, hPP⟩ : ∃ PP : Nat → Option Addr, PP = fun m => if m = 0 then (X j).pt else (X j).pe := ⟨_, rfl⟩
      obtain ⟨CC, hCC⟩ : ∃ CC : Nat → Nat, CC = fun m => if m = 0 then (X j).ct else (X j).ce := ⟨_, rfl⟩
      obtain ⟨LL, hLL⟩ : ∃ LL : Nat → List St, LL = fun m => if m = 0 then ss[j].th else ss[j].el := ⟨_, rfl⟩
      obtain ⟨LS, hLSd⟩ : ∃ LS : Nat → List Cd, LS = fun m => if m = 0 then [] else if m = 1 then condsOfs ss[j].th else condsOfs ss[j].th ++ condsOfs ss[j].el := ⟨_, rfl⟩
      have hLS0 : LS 0 = [] := by rw [hLSd]; rfl
      have hLS : ∀ m, m < 2 → LS (m + 1) = LS m ++ condsOfs (LL m) := fun m hm => by
        rw [hLSd, hLL]
        match m, hm with
        | 0, _ => simp
        | 1, _ => simp
      have hLSn : ∀ m, (LS m).length ≤ 100000 := fun m => by
        have := HLn2.out
        rw [hLSd]
        dsimp only
        split
        · simp
        · split
          · omega
          · rw [List.length_append]; omega
      have hLLn : ∀ m, m < 2 → (condsOfs (LL m)).length ≤ 100000 := fun m hm => by
        have := HLn2.out
        rw [hLL]
        dsimp only
        split <;> omega
      have HR : Hid (∀ m, m < 2 → ∀ W, Below w.heap.size w W → CondsAt W Q (LL m) (PP m) (CC m)) := Lib.hid fun m hm W hW => by
        rw [hLL, hPP, hCC]
        match m, hm with
        | 0, _ => exact HR1.out W hW
        | 1, _ => exact HR2.out W hW
      have hP0 : PP 0 = (X j).pt ∧ PP 1 = (X j).pe ∧ CC 0 = (X j).ct ∧ CC 1 = (X j).ce ∧ LL 0 = ss[j].th ∧ LL 1 = ss[j].el := by rw [hPP, hCC, hLL]; exact ⟨rfl, rfl, rfl, rfl, rfl, rfl⟩
      rw [← hP0.2.2.2.2.1, ← hP0.2.2.2.2.2, ← hP0.1, ← hP0.2.1, ← hP0.2.2.1, ← hP0.2.2.2.1] at HLs
      rw [← hP0.2.2.2.2.1, ← hP0.1, ← hP0.2.2.1] at a6
      rw [← hP0.2.2.2.2.2, ← hP0.2.1, ← hP0.2.2.2.1] at a7
      rw [← hP0.2.2.2.2.1, ← hP0.2.2.2.2.2, ← hP0.1, ← hP0.2.1, ← hP0.2.2.1, ← hP0.2.2.2.1] at HA
      have hLS2 : LS 2 = condsOfs ss[j].th ++ condsOfs ss[j].el := by rw [hLSd]; rfl
      rw [← hLS2] at HT
      have hL1n := HL.out.len
      have hL1m : (condsOfs (ss.take j)).length ≤ 100000 := by have := HLn2.out; omega
      clear hPP hCC hLL hLSd hP0 HR1 HR2 hLS2 HLn HLn2
      generalize ss[j].th = th at *
      generalize ss[j].el = el at *
      generalize ss[j].k = x1 at *
      generalize ss[j].b = x2 at *
      generalize hcj : ss[j].c = c at *
      generalize (X j).pc = pc at *
      generalize (X j).cc = cc at *
      clear hcj
      cases hnb : noB c with
      | true =>
        rw [hnb] at HN HT
        simp only [if_true, List.nil_append] at HT
        generalize hL1 : condsOfs (ss.take j) = L1 at *
        have HTT : Hid (condsOfs (ss.take (j + 1)) = L1 ++ LS 2) := Lib.hid HT.out
        clear HT hL1 hnb
        generalize c.k = x3 at *
        generalize c.v = x4 at *
        generalize c.n = x5 at *
        generalize c.ps.length = x6 at *
        go_wp2_with fail
        go_at_call 175
        (with_reducible refine (HN.out _).mono ?_)
        rintro e w1 ⟨rfl, hb⟩
        have HS2 := Lib.hid (HL.out.on (HA.out.trans (hb.mono HA.out.size)))
        have e0 : w1.cell? ⟨wr.heap.size, 0, none⟩ = some (.int .i64 x1) := keepc hb (by simp [go_sem])
        have e1 : w1.cell? ⟨wr.heap.size, 1, none⟩ = some (.int .i64 x2) := keepc hb (by simp [go_sem])
        have e2 : w1.cell? ⟨wr.heap.size, 2, none⟩ = some (.int .i64 x3) := keepc hb (by simp [go_sem])
        have e3 : w1.cell? ⟨wr.heap.size, 3, none⟩ = some (.int .i64 x4) := keepc hb (by simp [go_sem])
        have e4 : w1.cell? ⟨wr.heap.size, 4, none⟩ = some (.int .i64 x5) := keepc hb (by simp [go_sem])
        have e5 : w1.cell? ⟨wr.heap.size, 5, none⟩ = some (.slice pc x6 cc) := keepc hb (by simp [go_sem])
        have e6 : w1.cell? ⟨wr.heap.size, 6, none⟩ = some (.slice (PP 0) (LL 0).length (CC 0)) := keepc hb (by simp [go_sem])
        have e7 : w1.cell? ⟨wr.heap.size, 7, none⟩ = some (.slice (PP 1) (LL 1).length (CC 1)) := keepc hb (by simp [go_sem])
        clear hb HA HL a0 a1 a2 a3 a4 a5 a6 a7 HN HD
        go_wp2_with fail
        go_at_call 107
        (with_reducible refine (HLs.out _).mono ?_)
        rintro e w3 ⟨a, rfl, ⟨b0, b1⟩, ha, hb⟩
        have HI0 := Lib.hid (InSt.start (PP := PP) (LL := LL) (CC := CC) HS2.out hLS0 hb b0 b1 ha)
        clear b0 b1 ha hb HLs HS2
        go_wp2_with fail
        go_loopw [2, 25] (fun v i wq => ∃ (m : Nat) (es2 : List El), m ≤ 2 ∧ i = .int .i64 m ∧ Hid (InSt w wq Q v es2 (L1 ++ LS m) a PP LL CC)) (fun _ i _ => 2 - (intOf i).toNat)
        case atStart => exact ⟨0, _, by omega, rfl, HI0⟩
        case round =>
          obtain ⟨m, es2, hm, rfl, HI⟩ := hrel
          clear HI0
          by_cases hm2 : m < 2
          · have hmi : (m : Int) < 2 := by omega
            have y0 := HI.out.cells m hm2
            have HRm := Lib.hid (HR.out m hm2 _ HI.out.st.bel _ (Below.refl _ _))
            have HLSm : Hid (LS (m + 1) = LS m ++ condsOfs (LL m)) := Lib.hid (hLS m hm2)
            have hl2 := HI.out.st.len
            have hlm : (condsOfs (LL m)).length ≤ 100000 := hLLn m hm2
            have hlt2 : (L1 ++ LS m).length ≤ 500000 := by rw [List.length_append]; have := hLSn m; omega
            have HLL := Lib.hid hlm
            have HLT := Lib.hid hlt2
            have HL2 := Lib.hid hl2
            clear HR hlm hlt2 hl2
            generalize hPP : PP m = pm at *
            generalize hCC : CC m = cm at *
            generalize hLL : (LL m).length = lm at *
            clear hPP hCC hLL
            go_wp2_with fail
            go_at_call 108
            (with_reducible refine HRm.out.mono ?_)
            rintro e w4 ⟨es3, p3, cap3, rfl, hmap3, hown3, hb4⟩
            have HS4 := Lib.hid (HI.out.st.on hb4)
            have HC4 : Hid (∀ m, m < 2 → w4.cell? ⟨a, m, none⟩ = some (.slice (PP m) (LL m).length (CC m))) := Lib.hid fun m hm => keepc hb4 (HI.out.cells m hm)
            have HA4 := HI.out.ne
            have h3l : es3.length = (condsOfs (LL m)).length := by rw [← hmap3, List.length_map]
            have hsz4 := HS4.out.bel.size
            by_cases hem : es3 = []
            · have hz : (condsOfs (LL m)).length = 0 := by rw [← h3l, hem]; rfl
              have hnil := hown3.nil hem
              rw [hz] at hnil ⊢
              obtain ⟨rfl, -, rfl⟩ := Value.slice.inj hnil
              have HI4 := Lib.hid (InSt.same HS4.out HC4.out HA4 HLSm.out hz)
              clear hz hnil hem hmap3 hown3 hb4 h3l HA4
              go_wp2_with (refine wpList_append_own_none rfl _ _ 38 rfl w.heap.size 40 infoC 4 Tryz.underlying38 hinfoC _ _ _ rfl HS4.out.own.own rfl ?_)
              go_roundw
              case rel => exact ⟨m + 1, es2, by omega, by go_num, HI4⟩
              case measure => simp [intOf]; omega
            · have hpos : 0 < (condsOfs (LL m)).length := by rw [← h3l]; exact List.length_pos_iff.2 hem
              obtain ⟨q3, k3, hv3, -, hcells, -⟩ := hown3.reads (by rw [h3l]; have := HLL.out; omega)
              rw [h3l] at hv3
              obtain ⟨rfl, -, rfl⟩ := Value.slice.inj hv3
              obtain ⟨ad, rfl⟩ : ∃ ad, p3 = some ad := by
                cases p3 with
                | some ad => exact ⟨ad, rfl⟩
                | none =>
                  exfalso
                  rcases hown3.own.2 with ⟨hv, hn⟩ | ⟨g, _, _, hv, _⟩
                  · rw [h3l] at hn; omega
                  · cases hv
              have hcells' := hcells ad rfl
              have HMAP := Lib.hid hmap3
              have HELS := Lib.hid hown3.els
              have HCL := Lib.hid hcells'
              have hn3 : es2.length + (condsOfs (LL m)).length ≤ 1000000 := by have := HL2.out; have := HLT.out; have := HLL.out; omega
              have HH3 := Lib.hid h3l
              have hownlt := HI.out.st.own.lt
              clear hcells hcells' hmap3 hown3 hv3 hem h3l
              generalize hln : (condsOfs (LL m)).length = ln at *
              go_wp2_with (refine wpList_pushC rfl _ _ rfl w.heap.size Q HQ.out _ es2 HS4.out.own rfl es3 ad ln _ HH3.out hpos rfl HCL.out HELS.out hn3 hsz4 ?_; intro g cap' w5 ho5 hg5 hat5; have HI5 := Lib.hid (InSt.push HS4.out HC4.out HA4 ho5 hg5 hat5 HMAP.out HLSm.out); clear ho5 hg5 hat5)
              go_roundw
              case rel => exact ⟨m + 1, _, by omega, by go_num, HI5⟩
              case measure => simp [intOf]; omega
          · have hmi : ¬ (m : Int) < 2 := by omega
            obtain rfl : m = 2 := by omega
            have HF := Lib.hid HI.out.st
            rw [← HTT.out] at HF
            clear HR HI
            go_wp2_with fail
            go_roundw
            case rel => exact ⟨j + 1, es2, by omega, by go_num, HF⟩
            case measure => simp [intOf]; omega
      | false =>
        rw [hnb] at HN HT
        simp only [Bool.false_eq_true, if_false] at HT
        rw [← List.append_assoc] at HT
        obtain ⟨L1, hL1⟩ : ∃ L1, condsOfs (ss.take j) ++ [c] = L1 := ⟨_, rfl⟩
        rw [hL1] at HT
        have HTT : Hid (condsOfs (ss.take (j + 1)) = L1 ++ LS 2) := Lib.hid HT.out
        have hL1m2 : L1.length ≤ 200000 := by rw [← hL1, List.length_append, List.length_singleton]; omega
        have HLE := Lib.hid hL1
        have hes : es.length + 1 ≤ 1000000 := by omega
        clear HT hnb hL1 hL1n
        go_wp2_with fail
        go_at_call 175
        (with_reducible refine (HN.out _).mono ?_)
        rintro e w1 ⟨rfl, hb⟩
        have hb1 := HA.out.trans (hb.mono HA.out.size)
        have HS1 := Lib.hid (HL.out.on (hb1))
        have HCL := Lib.hid (HD.out w1 HS1.out.bel)
        have e0 : w1.cell? ⟨wr.heap.size, 0, none⟩ = some (.int .i64 x1) := keepc hb (by simp [go_sem])
        have e1 : w1.cell? ⟨wr.heap.size, 1, none⟩ = some (.int .i64 x2) := keepc hb (by simp [go_sem])
        have e2 : w1.cell? ⟨wr.heap.size, 2, none⟩ = some (.int .i64 c.k) := keepc hb (by simp [go_sem])
        have e3 : w1.cell? ⟨wr.heap.size, 3, none⟩ = some (.int .i64 c.v) := keepc hb (by simp [go_sem])
        have e4 : w1.cell? ⟨wr.heap.size, 4, none⟩ = some (.int .i64 c.n) := keepc hb (by simp [go_sem])
        have e5 : w1.cell? ⟨wr.heap.size, 5, none⟩ = some (.slice pc c.ps.length cc) := keepc hb (by simp [go_sem])
        have e6 : w1.cell? ⟨wr.heap.size, 6, none⟩ = some (.slice (PP 0) (LL 0).length (CC 0)) := keepc hb (by simp [go_sem])
        have e7 : w1.cell? ⟨wr.heap.size, 7, none⟩ = some (.slice (PP 1) (LL 1).length (CC 1)) := keepc hb (by simp [go_sem])
        have hb2 := (Below.refl w1.heap.size w1).alloc (Nat.le_refl _) (.cells #[.int .i64 c.k, .int .i64 c.v, .int .i64 c.n, .slice pc c.ps.length cc] 40)
        have HS1' := Lib.hid (HS1.out.on hb2)
        have HEL : Hid (∀ e ∈ [(c, pc, cc)], CdIn (w1.alloc (.cells #[.int .i64 c.k, .int .i64 c.v, .int .i64 c.n, .slice pc c.ps.length cc] 40)) Q e.1 e.2.1 e.2.2) := Lib.hid fun e he => by
          obtain rfl := List.mem_singleton.1 he
          exact HCL.out.bel hb2
        have HCE : Hid (∀ j u, (flatE [(c, pc, cc)])[j]? = some u → (w1.alloc (.cells #[.int .i64 c.k, .int .i64 c.v, .int .i64 c.n, .slice pc c.ps.length cc] 40)).cell? ((⟨w1.heap.size, 0, none⟩ : Addr).add j) = some u) := Lib.hid (four_cells w1 c.k c.v c.n (.slice pc c.ps.length cc))
        have hszw := HS1'.out.bel.size
        have hownw := HL.out.own.lt
        have hwr1 := hb1.size
        have hwr2 : wr.heap.size < w1.heap.size := World.block_lt_of_cell? _ _ e0
        have f0 := keepc hb2 e0
        have f1 := keepc hb2 e1
        have f2 := keepc hb2 e2
        have f3 := keepc hb2 e3
        have f4 := keepc hb2 e4
        have f5 := keepc hb2 e5
        have f6 := keepc hb2 e6
        have f7 := keepc hb2 e7
        clear hb hb1 hb2 HA HL a0 a1 a2 a3 a4 a5 a6 a7 HN HD HS1 HCL e6 e7
        go_wp2_with (refine wpList_pushC rfl _ _ rfl w.heap.size Q HQ.out _ es HS1'.out.own rfl [(c, pc, cc)] ⟨w1.heap.size, 0, none⟩ 1 1 rfl (by decide) rfl HCE.out HEL.out hes hszw ?_; intro g cap' w2 ho2 hg2 hat2; have HS2 := Lib.hid (CSt.push1 HS1'.out ho2 hg2 HLE.out); have HG := Lib.hid (fun (o : Nat) => World.cell?_of_block (a := ⟨wr.heap.size, o, none⟩) (hg2.block wr.heap.size (by simp only [World.size_alloc]; omega) (fun e => by have := (hownw _ e.symm).2; omega))); clear ho2 hg2 hat2; have g0 := (HG.out 0).trans f0; have g1 := (HG.out 1).trans f1; have g2 := (HG.out 2).trans f2; have g3 := (HG.out 3).trans f3; have g4 := (HG.out 4).trans f4; have g5 := (HG.out 5).trans f5; have g6 := (HG.out 6).trans f6; have g7 := (HG.out 7).trans f7; clear HG f0 f1 f2 f3 f4 f5 f6 f7)
        go_at_call 107
        (with_reducible refine (HLs.out _).mono ?_)
        rintro e w3 ⟨a, rfl, ⟨b0, b1⟩, ha, hb⟩
        have HI0 := Lib.hid (InSt.start (PP := PP) (LL := LL) (CC := CC) HS2.out hLS0 hb b0 b1 ha)
        clear b0 b1 ha hb HLs HS2
        go_wp2_with fail
        go_loopw [2, 25] (fun v i wq => ∃ (m : Nat) (es2 : List El), m ≤ 2 ∧ i = .int .i64 m ∧ Hid (InSt w wq Q v es2 (L1 ++ LS m) a PP LL CC)) (fun _ i _ => 2 - (intOf i).toNat)
        case atStart => exact ⟨0, _, by omega, rfl, HI0⟩
        case round =>
          obtain ⟨m, es2, hm, rfl, HI⟩ := hrel
          clear HI0
          by_cases hm2 : m < 2
          · have hmi : (m : Int) < 2 := by omega
            have y0 := HI.out.cells m hm2
            have HRm := Lib.hid (HR.out m hm2 _ HI.out.st.bel _ (Below.refl _ _))
            have HLSm : Hid (LS (m + 1) = LS m ++ condsOfs (LL m)) := Lib.hid (hLS m hm2)
            have hl2 := HI.out.st.len
            have hlm : (condsOfs (LL m)).length ≤ 100000 := hLLn m hm2
            have hlt2 : (L1 ++ LS m).length ≤ 500000 := by rw [List.length_append]; have := hLSn m; omega
            have HLL := Lib.hid hlm
            have HLT := Lib.hid hlt2
            have HL2 := Lib.hid hl2
            clear HR hlm hlt2 hl2
            generalize hPP : PP m = pm at *
            generalize hCC : CC m = cm at *
            generalize hLL : (LL m).length = lm at *
            clear hPP hCC hLL
            go_wp2_with fail
            go_at_call 108
            (with_reducible refine HRm.out.mono ?_)
            rintro e w4 ⟨es3, p3, cap3, rfl, hmap3, hown3, hb4⟩
            have HS4 := Lib.hid (HI.out.st.on hb4)
            have HC4 : Hid (∀ m, m < 2 → w4.cell? ⟨a, m, none⟩ = some (.slice (PP m) (LL m).length (CC m))) := Lib.hid fun m hm => keepc hb4 (HI.out.cells m hm)
            have HA4 := HI.out.ne
            have h3l : es3.length = (condsOfs (LL m)).length := by rw [← hmap3, List.length_map]
            have hsz4 := HS4.out.bel.size
            by_cases hem : es3 = []
            · have hz : (condsOfs (LL m)).length = 0 := by rw [← h3l, hem]; rfl
              have hnil := hown3.nil hem
              rw [hz] at hnil ⊢
              obtain ⟨rfl, -, rfl⟩ := Value.slice.inj hnil
              have HI4 := Lib.hid (InSt.same HS4.out HC4.out HA4 HLSm.out hz)
              clear hz hnil hem hmap3 hown3 hb4 h3l HA4
              go_wp2_with (refine wpList_append_own_none rfl _ _ 38 rfl w.heap.size 40 infoC 4 Tryz.underlying38 hinfoC _ _ _ rfl HS4.out.own.own rfl ?_)
              go_roundw
              case rel => exact ⟨m + 1, es2, by omega, by go_num, HI4⟩
              case measure => simp [intOf]; omega
            · have hpos : 0 < (condsOfs (LL m)).length := by rw [← h3l]; exact List.length_pos_iff.2 hem
              obtain ⟨q3, k3, hv3, -, hcells, -⟩ := hown3.reads (by rw [h3l]; have := HLL.out; omega)
              rw [h3l] at hv3
              obtain ⟨rfl, -, rfl⟩ := Value.slice.inj hv3
              obtain ⟨ad, rfl⟩ : ∃ ad, p3 = some ad := by
                cases p3 with
                | some ad => exact ⟨ad, rfl⟩
                | none =>
                  exfalso
                  rcases hown3.own.2 with ⟨hv, hn⟩ | ⟨g, _, _, hv, _⟩
                  · rw [h3l] at hn; omega
                  · cases hv
              have hcells' := hcells ad rfl
              have HMAP := Lib.hid hmap3
              have HELS := Lib.hid hown3.els
              have HCL := Lib.hid hcells'
              have hn3 : es2.length + (condsOfs (LL m)).length ≤ 1000000 := by have := HL2.out; have := HLT.out; have := HLL.out; omega
              have HH3 := Lib.hid h3l
              have hownlt := HI.out.st.own.lt
              clear hcells hcells' hmap3 hown3 hv3 hem h3l
              generalize hln : (condsOfs (LL m)).length = ln at *
              go_wp2_with (refine wpList_pushC rfl _ _ rfl w.heap.size Q HQ.out _ es2 HS4.out.own rfl es3 ad ln _ HH3.out hpos rfl HCL.out HELS.out hn3 hsz4 ?_; intro g cap' w5 ho5 hg5 hat5; have HI5 := Lib.hid (InSt.push HS4.out HC4.out HA4 ho5 hg5 hat5 HMAP.out HLSm.out); clear ho5 hg5 hat5)
              go_roundw
              case rel => exact ⟨m + 1, _, by omega, by go_num, HI5⟩
              case measure => simp [intOf]; omega
          · have hmi : ¬ (m : Int) < 2 := by omega
            obtain rfl : m = 2 := by omega
            have HF := Lib.hid HI.out.st
            rw [← HTT.out] at HF
            clear HR HI
            go_wp2_with fail
            go_roundw
            case rel => exact ⟨j + 1, es2, by omega, by go_num, HF⟩
            case measure => simp [intOf]; omega
    · have hji : ¬ (j : Int) < (ss.length : Int) := by omega
      obtain rfl : j = ss.length := by omega
      have hll := HL.out.len
      have hq : es.length ≤ 1000000 := by
        have := condsOfs_take_len ss ss.length
        have := condsOfs_len ss
        omega
      rw [List.take_length] at hll HL
      obtain ⟨q, k, hv, -⟩ := HL.out.own.reads hq
      rw [hll] at hv
      subst hv
      have HF : Hid (CondsR w Q (condsOfs ss) (.returned (.slice q (condsOfs ss).length k)) wr) := Lib.hid ⟨es, q, k, rfl, HL.out.map, HL.out.own, HL.out.bel⟩
      clear HC HCd HT1 HT2 HB hll HL hq
      generalize (condsOfs ss).length = n at *
      go_wp2_with fail
      go_ret
      exact HF.out
end Go.Proofs.YtabdgnigmlpeaaaGreatDoor
