/- counts, keyed by strings. -/
import Derived.Test.YtabdgnigmlpeaaaGreatDoorTXM
import Derived.Test.YtabdgnigmlpeaaaGreatDoorTXA
import Derived.Test.YtabdgnigmlpeaaaGreatDoorTMapN
import Derived.StringKeys
import Derived.Maps.Own
import Derived.Maps.OwnSet
import Derived.Maps.RangeWalk
import Derived.Test.YtabdgnigmlpeaaaGreatDoorTCourse
namespace Go.Proofs.YtabdgnigmlpeaaaGreatDoor
open Go.RowKit Go.Maps Go.WideMaps

set_option maxRecDepth 100000 in
theorem lawS : Keyed Tryz.prog 9 := string_keyed Tryz.underlying9
set_option maxRecDepth 100000 in
theorem zeroI (w : World) : (zeroValue 3).run Tryz.prog w = .ok (.int .i64 0) w := by kernel_rfl
theorem keyS (l : Bs) (h : l.length ≤ 1000000) : keyOf Tryz.prog 9 (.string (S l)) = some (.string l) := by
  have := keyOf_string_mk (P := Tryz.prog) (k := 9) Tryz.underlying9 (s := S l) (by rw [S_size]; unfold maxLen; omega)
  rw [S_data] at this
  exact this
/-- The map holds how often each text stands in l. -/
structure CntS (D : DataW Unit) (l : List Bs) : Prop where
  im : IsMap D
  at' : ∀ k : Bs, D.atKey (.string k) (.lit (.int .i64 0)) = .lit (.int .i64 (l.count k : Nat))
  hs : ∀ k : Bs, has D (.string k) = l.contains k
theorem CntS.start : CntS (.map []) [] := ⟨isMap_empty, fun _ => rfl, fun _ => rfl⟩
theorem CntS.step {D : DataW Unit} {l : List Bs} (h : CntS D l) (k : Bs) (c : Int) (hc : c = (l.count k : Nat)) : CntS (D.put (.string k) (.lit (.int .i64 (c + 1)))) (l ++ [k]) := by
  subst hc
  refine ⟨h.im.put _ _, fun k2 => ?_, fun k2 => ?_⟩
  · by_cases he : k2 = k
    · subst he
      rw [atKey_put_same h.im (by trivial)]
      simp [List.count_append]
    · rw [atKey_put_other (by intro e; exact he (by simpa using e)), h.at']
      simp [List.count_append, Ne.symm he]
  · by_cases he : k2 = k
    · subst he
      rw [has_put_same h.im (by trivial)]
      simp
    · rw [has_put_other (by intro e; exact he (by simpa using e)), h.hs]
      simp [he]

set_option maxHeartbeats 4000000 in
theorem counts_mat {l : List MatD} (g : Nat) (eg : ∀ args w, (callFunc g args).run Tryz.prog w = .ok (.enter g args) w) {p : Option Addr} {cap : Nat} {w : World} {Q : Nat → Prop} (h : FlatIn w Q 2 MatD.cells l p cap) (hl : l.length ≤ 1000000)
    (hcall : ∀ (W : World) (x : MatD), Calls Tryz.prog g #[.agg #[.string x.n, .int .i64 x.k]] W fun e w' => e = .returned (.string x.n) ∧ Below W.heap.size W w') (hsz : ∀ x ∈ l, x.n.size ≤ maxLen) :
    Calls Tryz.prog 132 #[.slice p l.length cap, .func (Fn.func g) #[] #[]] w fun e w' => ∃ D, e = .returned (.map (some w.heap.size)) ∧ w'.ownsMap Tryz.prog 9 (plainElem (H := Unit) Tryz.prog 3) w.heap.size l.length D ∧ CntS D (l.map fun x => x.n.data.toList) ∧ Below w.heap.size w w' := by
  have hmm := @run_makeMap Tryz.prog
  obtain ⟨b, off, hL, hcell⟩ := h
  have HE : Hid (∀ w', Below w.heap.size w w' → ∀ j (h : j < l.length), p = some ⟨b, off, none⟩ ∧ w'.cell? ⟨b, off + j * 2, none⟩ = some (.string l[j].n) ∧ w'.cell? ⟨b, off + j * 2 + 1, none⟩ = some (.int .i64 l[j].k)) := Lib.hid fun w' hb' j hj =>
    ⟨(hL.hb (by omega)).1, keepc hb' (hcell j hj 0 _ rfl), keepc hb' (hcell j hj 1 _ rfl)⟩
  have HC := Lib.hid hcall
  have HZ := Lib.hid hsz
  clear hL hcell hcall hsz
  go_enter Tryz.func132, Tryz.ntmps132
  go_wp2_with fail
  go_loopw [11] (fun i wr => ∃ (j : Nat) (D : DataW Unit), j ≤ l.length ∧ i = .int .i64 j ∧ Hid (wr.ownsMap Tryz.prog 9 (plainElem (H := Unit) Tryz.prog 3) w.heap.size j D) ∧ Hid (CntS D ((l.take j).map fun x => x.n.data.toList)) ∧ Hid (Below w.heap.size w wr)) (fun i _ => l.length - (intOf i).toNat)
  case atStart => exact ⟨0, .map [], Nat.zero_le _, rfl, Lib.hid (World.ownsMap_made _ _ _ _), Lib.hid CntS.start, Lib.hid ((Below.refl _ _).alloc (Nat.le_refl _) _)⟩
  case round =>
    obtain ⟨j, D, hj, rfl, HO, HD, HB⟩ := hrel
    by_cases hlt : j < l.length
    · have hji : (j : Int) < (l.length : Int) := by omega
      obtain ⟨rfl, y0, y1⟩ := HE.out _ HB.out j hlt
      have hkey : keyOf Tryz.prog 9 (.string l[j].n) = some (.string l[j].n.data.toList) := keyOf_string_mk Tryz.underlying9 (HZ.out l[j] (List.getElem_mem hlt))
      have HT : Hid (((l.take (j + 1)).map fun x => x.n.data.toList) = ((l.take j).map fun x => x.n.data.toList) ++ [l[j].n.data.toList]) := Lib.hid (by rw [List.take_succ_eq_append_getElem hlt, List.map_append]; rfl)
      have hcnt : (((l.take j).map fun x => x.n.data.toList).count l[j].n.data.toList : Nat) ≤ 1000000 := by
        have h1 : ((l.take j).map fun x => x.n.data.toList).count l[j].n.data.toList ≤ ((l.take j).map fun x => x.n.data.toList).length := List.count_le_length
        rw [List.length_map, List.length_take] at h1
        omega
      have HCj := Lib.hid (fun W => HC.out W l[j])
      clear HE HC HZ
      generalize ((l.take j).map fun x => x.n.data.toList) = N at *
      generalize hN2 : ((l.take (j + 1)).map fun x => x.n.data.toList) = N2 at *
      have HN2 := Lib.hid hN2
      clear hN2
      generalize l[j] = x at *
      have HA := Lib.hid ((Below.refl wr.heap.size wr).alloc (Nat.le_refl _) (.cells #[.string x.n, .int .i64 x.k] 70))
      have HBA := Lib.hid (HB.out.alloc HB.out.size (.cells #[.string x.n, .int .i64 x.k] 70))
      obtain ⟨xn, xk⟩ := x
      simp only at *
      go_wp2_with (first
        | (go_at_fn g; (with_reducible refine (HCj.out _).mono ?_); rintro e w1 ⟨rfl, hb1⟩
           have HO1 := Lib.hid ((HO.out.kept (gr_bel none HA.out) (by simp)).kept (gr_bel none hb1) (by simp))
           have HB1 := Lib.hid (HBA.out.trans (hb1.mono HBA.out.size))
           obtain ⟨cc, hrun, hat, -⟩ := HO1.out.lookup_int lawS Tryz.underlying189 Tryz.underlying3 (zeroI _) hkey
           have hcc : cc = (N.count xn.data.toList : Nat) := by
             have h2 := HD.out.at' xn.data.toList
             rw [hat] at h2
             simpa using h2
           have HW : Hid (wrap64 (cc + 1) = cc + 1) := Lib.hid (by unfold wrap64; omega)
           have HCC := Lib.hid hcc
           clear hat hcc hb1)
        | (at_mapUpdate; refine wpList_mapUpdate_own _ rfl _ _ _ 189 rfl 9 3 lawS Tryz.underlying189 _ w.heap.size j D rfl HO1.out (by unfold maxLen; omega) _ _ _ rfl rfl hkey _ [] (plainElem_int Tryz.underlying3 (wrap64_wf _)) ?_))
      intro w5 hown5 hg5
      rw [HW.out] at hown5
      have HO5 := Lib.hid hown5
      have HD5 : Hid (CntS (D.put (.string xn.data.toList) (.lit (.int .i64 (cc + 1)))) N2) := Lib.hid (by rw [HT.out]; exact HD.out.step xn.data.toList cc HCC.out)
      have HB5 : Hid (Below w.heap.size w w5) := Lib.hid (HB1.out.grown hg5 HB1.out.size (fun j hj => by cases hj; exact Nat.le_refl _))
      clear hown5 hg5 hrun HO1 HO HD HB HA HBA HCj HB1 HT HW HCC
      go_wp2_with fail
      go_round
      case rel => exact ⟨j + 1, _, by omega, by go_num, HO5, by rw [HN2.out]; exact HD5, HB5⟩
      case measure => simp [intOf]; omega
    · have hji : ¬ (j : Int) < (l.length : Int) := by omega
      obtain rfl : j = l.length := by omega
      rw [List.take_length] at HD
      clear HE HC HZ
      go_wp2_with fail
      go_ret
      exact ⟨rfl, D, HO.out, HD.out, HB.out⟩
set_option maxHeartbeats 4000000 in
theorem counts_dist {l : List (DistD × DLoc)} (g : Nat) (eg : ∀ args w, (callFunc g args).run Tryz.prog w = .ok (.enter g args) w) {p : Option Addr} {cap : Nat} {w : World} {Q : Nat → Prop} (h : FlatIn w Q 5 (fun e => e.1.cells e.2) l p cap) (hl : l.length ≤ 1000000)
    (hcall : ∀ (W : World) (x : (DistD × DLoc)), Calls Tryz.prog g #[.agg #[.string x.1.n, .slice x.2.pr x.1.r.length x.2.cr, .int .i64 x.1.t, .slice x.2.pc x.1.cs.length x.2.cc, .int .i64 x.1.x]] W fun e w' => e = .returned (.string x.1.n) ∧ Below W.heap.size W w') (hsz : ∀ x ∈ l, x.1.n.size ≤ maxLen) :
    Calls Tryz.prog 133 #[.slice p l.length cap, .func (Fn.func g) #[] #[]] w fun e w' => ∃ D, e = .returned (.map (some w.heap.size)) ∧ w'.ownsMap Tryz.prog 9 (plainElem (H := Unit) Tryz.prog 3) w.heap.size l.length D ∧ CntS D (l.map fun x => x.1.n.data.toList) ∧ Below w.heap.size w w' := by
  have hmm := @run_makeMap Tryz.prog
  obtain ⟨b, off, hL, hcell⟩ := h
  have HE : Hid (∀ w', Below w.heap.size w w' → ∀ j (h : j < l.length), p = some ⟨b, off, none⟩ ∧ w'.cell? ⟨b, off + j * 5, none⟩ = some (.string l[j].1.n) ∧ w'.cell? ⟨b, off + j * 5 + 1, none⟩ = some (.slice l[j].2.pr l[j].1.r.length l[j].2.cr) ∧ w'.cell? ⟨b, off + j * 5 + 2, none⟩ = some (.int .i64 l[j].1.t) ∧ w'.cell? ⟨b, off + j * 5 + 3, none⟩ = some (.slice l[j].2.pc l[j].1.cs.length l[j].2.cc) ∧ w'.cell? ⟨b, off + j * 5 + 4, none⟩ = some (.int .i64 l[j].1.x)) := Lib.hid fun w' hb' j hj =>
    ⟨(hL.hb (by omega)).1, keepc hb' (hcell j hj 0 _ rfl), keepc hb' (hcell j hj 1 _ rfl), keepc hb' (hcell j hj 2 _ rfl), keepc hb' (hcell j hj 3 _ rfl), keepc hb' (hcell j hj 4 _ rfl)⟩
  have HC := Lib.hid hcall
  have HZ := Lib.hid hsz
  clear hL hcell hcall hsz
  go_enter Tryz.func133, Tryz.ntmps133
  go_wp2_with fail
  go_loopw [11] (fun i wr => ∃ (j : Nat) (D : DataW Unit), j ≤ l.length ∧ i = .int .i64 j ∧ Hid (wr.ownsMap Tryz.prog 9 (plainElem (H := Unit) Tryz.prog 3) w.heap.size j D) ∧ Hid (CntS D ((l.take j).map fun x => x.1.n.data.toList)) ∧ Hid (Below w.heap.size w wr)) (fun i _ => l.length - (intOf i).toNat)
  case atStart => exact ⟨0, .map [], Nat.zero_le _, rfl, Lib.hid (World.ownsMap_made _ _ _ _), Lib.hid CntS.start, Lib.hid ((Below.refl _ _).alloc (Nat.le_refl _) _)⟩
  case round =>
    obtain ⟨j, D, hj, rfl, HO, HD, HB⟩ := hrel
    by_cases hlt : j < l.length
    · have hji : (j : Int) < (l.length : Int) := by omega
      obtain ⟨rfl, y0, y1, y2, y3, y4⟩ := HE.out _ HB.out j hlt
      have hkey : keyOf Tryz.prog 9 (.string l[j].1.n) = some (.string l[j].1.n.data.toList) := keyOf_string_mk Tryz.underlying9 (HZ.out l[j] (List.getElem_mem hlt))
      have HT : Hid (((l.take (j + 1)).map fun x => x.1.n.data.toList) = ((l.take j).map fun x => x.1.n.data.toList) ++ [l[j].1.n.data.toList]) := Lib.hid (by rw [List.take_succ_eq_append_getElem hlt, List.map_append]; rfl)
      have hcnt : (((l.take j).map fun x => x.1.n.data.toList).count l[j].1.n.data.toList : Nat) ≤ 1000000 := by
        have h1 : ((l.take j).map fun x => x.1.n.data.toList).count l[j].1.n.data.toList ≤ ((l.take j).map fun x => x.1.n.data.toList).length := List.count_le_length
        rw [List.length_map, List.length_take] at h1
        omega
      have HCj := Lib.hid (fun W => HC.out W l[j])
      clear HE HC HZ
      generalize ((l.take j).map fun x => x.1.n.data.toList) = N at *
      generalize hN2 : ((l.take (j + 1)).map fun x => x.1.n.data.toList) = N2 at *
      have HN2 := Lib.hid hN2
      clear hN2
      generalize l[j] = x at *
      have HA := Lib.hid ((Below.refl wr.heap.size wr).alloc (Nat.le_refl _) (.cells #[.string x.1.n, .slice x.2.pr x.1.r.length x.2.cr, .int .i64 x.1.t, .slice x.2.pc x.1.cs.length x.2.cc, .int .i64 x.1.x] 66))
      have HBA := Lib.hid (HB.out.alloc HB.out.size (.cells #[.string x.1.n, .slice x.2.pr x.1.r.length x.2.cr, .int .i64 x.1.t, .slice x.2.pc x.1.cs.length x.2.cc, .int .i64 x.1.x] 66))
      obtain ⟨⟨xn, xr, xt, xc, xx⟩, ⟨pr, cr, pc, cc2⟩⟩ := x
      simp only at *
      go_wp2_with (first
        | (go_at_fn g; (with_reducible refine (HCj.out _).mono ?_); rintro e w1 ⟨rfl, hb1⟩
           have HO1 := Lib.hid ((HO.out.kept (gr_bel none HA.out) (by simp)).kept (gr_bel none hb1) (by simp))
           have HB1 := Lib.hid (HBA.out.trans (hb1.mono HBA.out.size))
           obtain ⟨cc, hrun, hat, -⟩ := HO1.out.lookup_int lawS Tryz.underlying189 Tryz.underlying3 (zeroI _) hkey
           have hcc : cc = (N.count xn.data.toList : Nat) := by
             have h2 := HD.out.at' xn.data.toList
             rw [hat] at h2
             simpa using h2
           have HW : Hid (wrap64 (cc + 1) = cc + 1) := Lib.hid (by unfold wrap64; omega)
           have HCC := Lib.hid hcc
           clear hat hcc hb1)
        | (at_mapUpdate; refine wpList_mapUpdate_own _ rfl _ _ _ 189 rfl 9 3 lawS Tryz.underlying189 _ w.heap.size j D rfl HO1.out (by unfold maxLen; omega) _ _ _ rfl rfl hkey _ [] (plainElem_int Tryz.underlying3 (wrap64_wf _)) ?_))
      intro w5 hown5 hg5
      rw [HW.out] at hown5
      have HO5 := Lib.hid hown5
      have HD5 : Hid (CntS (D.put (.string xn.data.toList) (.lit (.int .i64 (cc + 1)))) N2) := Lib.hid (by rw [HT.out]; exact HD.out.step xn.data.toList cc HCC.out)
      have HB5 : Hid (Below w.heap.size w w5) := Lib.hid (HB1.out.grown hg5 HB1.out.size (fun j hj => by cases hj; exact Nat.le_refl _))
      clear hown5 hg5 hrun HO1 HO HD HB HA HBA HCj HB1 HT HW HCC
      go_wp2_with fail
      go_round
      case rel => exact ⟨j + 1, _, by omega, by go_num, HO5, by rw [HN2.out]; exact HD5, HB5⟩
      case measure => simp [intOf]; omega
    · have hji : ¬ (j : Int) < (l.length : Int) := by omega
      obtain rfl : j = l.length := by omega
      rw [List.take_length] at HD
      clear HE HC HZ
      go_wp2_with fail
      go_ret
      exact ⟨rfl, D, HO.out, HD.out, HB.out⟩
set_option maxHeartbeats 4000000 in
theorem counts_wave {l : List WaveD} (g : Nat) (eg : ∀ args w, (callFunc g args).run Tryz.prog w = .ok (.enter g args) w) {p : Option Addr} {cap : Nat} {w : World} {Q : Nat → Prop} (h : FlatIn w Q 2 WaveD.cells l p cap) (hl : l.length ≤ 1000000)
    (hcall : ∀ (W : World) (x : WaveD), Calls Tryz.prog g #[.agg #[.string x.n, .int .i64 x.g]] W fun e w' => e = .returned (.string x.n) ∧ Below W.heap.size W w') (hsz : ∀ x ∈ l, x.n.size ≤ maxLen) :
    Calls Tryz.prog 134 #[.slice p l.length cap, .func (Fn.func g) #[] #[]] w fun e w' => ∃ D, e = .returned (.map (some w.heap.size)) ∧ w'.ownsMap Tryz.prog 9 (plainElem (H := Unit) Tryz.prog 3) w.heap.size l.length D ∧ CntS D (l.map fun x => x.n.data.toList) ∧ Below w.heap.size w w' := by
  have hmm := @run_makeMap Tryz.prog
  obtain ⟨b, off, hL, hcell⟩ := h
  have HE : Hid (∀ w', Below w.heap.size w w' → ∀ j (h : j < l.length), p = some ⟨b, off, none⟩ ∧ w'.cell? ⟨b, off + j * 2, none⟩ = some (.string l[j].n) ∧ w'.cell? ⟨b, off + j * 2 + 1, none⟩ = some (.int .i64 l[j].g)) := Lib.hid fun w' hb' j hj =>
    ⟨(hL.hb (by omega)).1, keepc hb' (hcell j hj 0 _ rfl), keepc hb' (hcell j hj 1 _ rfl)⟩
  have HC := Lib.hid hcall
  have HZ := Lib.hid hsz
  clear hL hcell hcall hsz
  go_enter Tryz.func134, Tryz.ntmps134
  go_wp2_with fail
  go_loopw [11] (fun i wr => ∃ (j : Nat) (D : DataW Unit), j ≤ l.length ∧ i = .int .i64 j ∧ Hid (wr.ownsMap Tryz.prog 9 (plainElem (H := Unit) Tryz.prog 3) w.heap.size j D) ∧ Hid (CntS D ((l.take j).map fun x => x.n.data.toList)) ∧ Hid (Below w.heap.size w wr)) (fun i _ => l.length - (intOf i).toNat)
  case atStart => exact ⟨0, .map [], Nat.zero_le _, rfl, Lib.hid (World.ownsMap_made _ _ _ _), Lib.hid CntS.start, Lib.hid ((Below.refl _ _).alloc (Nat.le_refl _) _)⟩
  case round =>
    obtain ⟨j, D, hj, rfl, HO, HD, HB⟩ := hrel
    by_cases hlt : j < l.length
    · have hji : (j : Int) < (l.length : Int) := by omega
      obtain ⟨rfl, y0, y1⟩ := HE.out _ HB.out j hlt
      have hkey : keyOf Tryz.prog 9 (.string l[j].n) = some (.string l[j].n.data.toList) := keyOf_string_mk Tryz.underlying9 (HZ.out l[j] (List.getElem_mem hlt))
      have HT : Hid (((l.take (j + 1)).map fun x => x.n.data.toList) = ((l.take j).map fun x => x.n.data.toList) ++ [l[j].n.data.toList]) := Lib.hid (by rw [List.take_succ_eq_append_getElem hlt, List.map_append]; rfl)
      have hcnt : (((l.take j).map fun x => x.n.data.toList).count l[j].n.data.toList : Nat) ≤ 1000000 := by
        have h1 : ((l.take j).map fun x => x.n.data.toList).count l[j].n.data.toList ≤ ((l.take j).map fun x => x.n.data.toList).length := List.count_le_length
        rw [List.length_map, List.length_take] at h1
        omega
      have HCj := Lib.hid (fun W => HC.out W l[j])
      clear HE HC HZ
      generalize ((l.take j).map fun x => x.n.data.toList) = N at *
      generalize hN2 : ((l.take (j + 1)).map fun x => x.n.data.toList) = N2 at *
      have HN2 := Lib.hid hN2
      clear hN2
      generalize l[j] = x at *
      have HA := Lib.hid ((Below.refl wr.heap.size wr).alloc (Nat.le_refl _) (.cells #[.string x.n, .int .i64 x.g] 81))
      have HBA := Lib.hid (HB.out.alloc HB.out.size (.cells #[.string x.n, .int .i64 x.g] 81))
      obtain ⟨xn, xg⟩ := x
      simp only at *
      go_wp2_with (first
        | (go_at_fn g; (with_reducible refine (HCj.out _).mono ?_); rintro e w1 ⟨rfl, hb1⟩
           have HO1 := Lib.hid ((HO.out.kept (gr_bel none HA.out) (by simp)).kept (gr_bel none hb1) (by simp))
           have HB1 := Lib.hid (HBA.out.trans (hb1.mono HBA.out.size))
           obtain ⟨cc, hrun, hat, -⟩ := HO1.out.lookup_int lawS Tryz.underlying189 Tryz.underlying3 (zeroI _) hkey
           have hcc : cc = (N.count xn.data.toList : Nat) := by
             have h2 := HD.out.at' xn.data.toList
             rw [hat] at h2
             simpa using h2
           have HW : Hid (wrap64 (cc + 1) = cc + 1) := Lib.hid (by unfold wrap64; omega)
           have HCC := Lib.hid hcc
           clear hat hcc hb1)
        | (at_mapUpdate; refine wpList_mapUpdate_own _ rfl _ _ _ 189 rfl 9 3 lawS Tryz.underlying189 _ w.heap.size j D rfl HO1.out (by unfold maxLen; omega) _ _ _ rfl rfl hkey _ [] (plainElem_int Tryz.underlying3 (wrap64_wf _)) ?_))
      intro w5 hown5 hg5
      rw [HW.out] at hown5
      have HO5 := Lib.hid hown5
      have HD5 : Hid (CntS (D.put (.string xn.data.toList) (.lit (.int .i64 (cc + 1)))) N2) := Lib.hid (by rw [HT.out]; exact HD.out.step xn.data.toList cc HCC.out)
      have HB5 : Hid (Below w.heap.size w w5) := Lib.hid (HB1.out.grown hg5 HB1.out.size (fun j hj => by cases hj; exact Nat.le_refl _))
      clear hown5 hg5 hrun HO1 HO HD HB HA HBA HCj HB1 HT HW HCC
      go_wp2_with fail
      go_round
      case rel => exact ⟨j + 1, _, by omega, by go_num, HO5, by rw [HN2.out]; exact HD5, HB5⟩
      case measure => simp [intOf]; omega
    · have hji : ¬ (j : Int) < (l.length : Int) := by omega
      obtain rfl : j = l.length := by omega
      rw [List.take_length] at HD
      clear HE HC HZ
      go_wp2_with fail
      go_ret
      exact ⟨rfl, D, HO.out, HD.out, HB.out⟩
set_option maxHeartbeats 4000000 in
theorem counts_off {l : List OffD} (g : Nat) (eg : ∀ args w, (callFunc g args).run Tryz.prog w = .ok (.enter g args) w) {p : Option Addr} {cap : Nat} {w : World} {Q : Nat → Prop} (h : FlatIn w Q 4 OffD.cells l p cap) (hl : l.length ≤ 1000000)
    (hcall : ∀ (W : World) (x : OffD), Calls Tryz.prog g #[.agg #[.string x.n, .int .i64 x.t, .int .i64 x.l, .bool x.o]] W fun e w' => e = .returned (.string x.n) ∧ Below W.heap.size W w') (hsz : ∀ x ∈ l, x.n.size ≤ maxLen) :
    Calls Tryz.prog 135 #[.slice p l.length cap, .func (Fn.func g) #[] #[]] w fun e w' => ∃ D, e = .returned (.map (some w.heap.size)) ∧ w'.ownsMap Tryz.prog 9 (plainElem (H := Unit) Tryz.prog 3) w.heap.size l.length D ∧ CntS D (l.map fun x => x.n.data.toList) ∧ Below w.heap.size w w' := by
  have hmm := @run_makeMap Tryz.prog
  obtain ⟨b, off, hL, hcell⟩ := h
  have HE : Hid (∀ w', Below w.heap.size w w' → ∀ j (h : j < l.length), p = some ⟨b, off, none⟩ ∧ w'.cell? ⟨b, off + j * 4, none⟩ = some (.string l[j].n) ∧ w'.cell? ⟨b, off + j * 4 + 1, none⟩ = some (.int .i64 l[j].t) ∧ w'.cell? ⟨b, off + j * 4 + 2, none⟩ = some (.int .i64 l[j].l) ∧ w'.cell? ⟨b, off + j * 4 + 3, none⟩ = some (.bool l[j].o)) := Lib.hid fun w' hb' j hj =>
    ⟨(hL.hb (by omega)).1, keepc hb' (hcell j hj 0 _ rfl), keepc hb' (hcell j hj 1 _ rfl), keepc hb' (hcell j hj 2 _ rfl), keepc hb' (hcell j hj 3 _ rfl)⟩
  have HC := Lib.hid hcall
  have HZ := Lib.hid hsz
  clear hL hcell hcall hsz
  go_enter Tryz.func135, Tryz.ntmps135
  go_wp2_with fail
  go_loopw [11] (fun i wr => ∃ (j : Nat) (D : DataW Unit), j ≤ l.length ∧ i = .int .i64 j ∧ Hid (wr.ownsMap Tryz.prog 9 (plainElem (H := Unit) Tryz.prog 3) w.heap.size j D) ∧ Hid (CntS D ((l.take j).map fun x => x.n.data.toList)) ∧ Hid (Below w.heap.size w wr)) (fun i _ => l.length - (intOf i).toNat)
  case atStart => exact ⟨0, .map [], Nat.zero_le _, rfl, Lib.hid (World.ownsMap_made _ _ _ _), Lib.hid CntS.start, Lib.hid ((Below.refl _ _).alloc (Nat.le_refl _) _)⟩
  case round =>
    obtain ⟨j, D, hj, rfl, HO, HD, HB⟩ := hrel
    by_cases hlt : j < l.length
    · have hji : (j : Int) < (l.length : Int) := by omega
      obtain ⟨rfl, y0, y1, y2, y3⟩ := HE.out _ HB.out j hlt
      have hkey : keyOf Tryz.prog 9 (.string l[j].n) = some (.string l[j].n.data.toList) := keyOf_string_mk Tryz.underlying9 (HZ.out l[j] (List.getElem_mem hlt))
      have HT : Hid (((l.take (j + 1)).map fun x => x.n.data.toList) = ((l.take j).map fun x => x.n.data.toList) ++ [l[j].n.data.toList]) := Lib.hid (by rw [List.take_succ_eq_append_getElem hlt, List.map_append]; rfl)
      have hcnt : (((l.take j).map fun x => x.n.data.toList).count l[j].n.data.toList : Nat) ≤ 1000000 := by
        have h1 : ((l.take j).map fun x => x.n.data.toList).count l[j].n.data.toList ≤ ((l.take j).map fun x => x.n.data.toList).length := List.count_le_length
        rw [List.length_map, List.length_take] at h1
        omega
      have HCj := Lib.hid (fun W => HC.out W l[j])
      clear HE HC HZ
      generalize ((l.take j).map fun x => x.n.data.toList) = N at *
      generalize hN2 : ((l.take (j + 1)).map fun x => x.n.data.toList) = N2 at *
      have HN2 := Lib.hid hN2
      clear hN2
      generalize l[j] = x at *
      have HA := Lib.hid ((Below.refl wr.heap.size wr).alloc (Nat.le_refl _) (.cells #[.string x.n, .int .i64 x.t, .int .i64 x.l, .bool x.o] 79))
      have HBA := Lib.hid (HB.out.alloc HB.out.size (.cells #[.string x.n, .int .i64 x.t, .int .i64 x.l, .bool x.o] 79))
      obtain ⟨xn, xt, xl, xo⟩ := x
      simp only at *
      go_wp2_with (first
        | (go_at_fn g; (with_reducible refine (HCj.out _).mono ?_); rintro e w1 ⟨rfl, hb1⟩
           have HO1 := Lib.hid ((HO.out.kept (gr_bel none HA.out) (by simp)).kept (gr_bel none hb1) (by simp))
           have HB1 := Lib.hid (HBA.out.trans (hb1.mono HBA.out.size))
           obtain ⟨cc, hrun, hat, -⟩ := HO1.out.lookup_int lawS Tryz.underlying189 Tryz.underlying3 (zeroI _) hkey
           have hcc : cc = (N.count xn.data.toList : Nat) := by
             have h2 := HD.out.at' xn.data.toList
             rw [hat] at h2
             simpa using h2
           have HW : Hid (wrap64 (cc + 1) = cc + 1) := Lib.hid (by unfold wrap64; omega)
           have HCC := Lib.hid hcc
           clear hat hcc hb1)
        | (at_mapUpdate; refine wpList_mapUpdate_own _ rfl _ _ _ 189 rfl 9 3 lawS Tryz.underlying189 _ w.heap.size j D rfl HO1.out (by unfold maxLen; omega) _ _ _ rfl rfl hkey _ [] (plainElem_int Tryz.underlying3 (wrap64_wf _)) ?_))
      intro w5 hown5 hg5
      rw [HW.out] at hown5
      have HO5 := Lib.hid hown5
      have HD5 : Hid (CntS (D.put (.string xn.data.toList) (.lit (.int .i64 (cc + 1)))) N2) := Lib.hid (by rw [HT.out]; exact HD.out.step xn.data.toList cc HCC.out)
      have HB5 : Hid (Below w.heap.size w w5) := Lib.hid (HB1.out.grown hg5 HB1.out.size (fun j hj => by cases hj; exact Nat.le_refl _))
      clear hown5 hg5 hrun HO1 HO HD HB HA HBA HCj HB1 HT HW HCC
      go_wp2_with fail
      go_round
      case rel => exact ⟨j + 1, _, by omega, by go_num, HO5, by rw [HN2.out]; exact HD5, HB5⟩
      case measure => simp [intOf]; omega
    · have hji : ¬ (j : Int) < (l.length : Int) := by omega
      obtain rfl : j = l.length := by omega
      rw [List.take_length] at HD
      clear HE HC HZ
      go_wp2_with fail
      go_ret
      exact ⟨rfl, D, HO.out, HD.out, HB.out⟩
set_option maxHeartbeats 4000000 in
theorem counts_cat {l : List CatD} (g : Nat) (eg : ∀ args w, (callFunc g args).run Tryz.prog w = .ok (.enter g args) w) {p : Option Addr} {cap : Nat} {w : World} {Q : Nat → Prop} (h : FlatIn w Q 3 CatD.cells l p cap) (hl : l.length ≤ 1000000)
    (hcall : ∀ (W : World) (x : CatD), Calls Tryz.prog g #[.agg #[.string x.n, .int .i64 x.f, .int .i64 x.t]] W fun e w' => e = .returned (.string x.n) ∧ Below W.heap.size W w') (hsz : ∀ x ∈ l, x.n.size ≤ maxLen) :
    Calls Tryz.prog 136 #[.slice p l.length cap, .func (Fn.func g) #[] #[]] w fun e w' => ∃ D, e = .returned (.map (some w.heap.size)) ∧ w'.ownsMap Tryz.prog 9 (plainElem (H := Unit) Tryz.prog 3) w.heap.size l.length D ∧ CntS D (l.map fun x => x.n.data.toList) ∧ Below w.heap.size w w' := by
  have hmm := @run_makeMap Tryz.prog
  obtain ⟨b, off, hL, hcell⟩ := h
  have HE : Hid (∀ w', Below w.heap.size w w' → ∀ j (h : j < l.length), p = some ⟨b, off, none⟩ ∧ w'.cell? ⟨b, off + j * 3, none⟩ = some (.string l[j].n) ∧ w'.cell? ⟨b, off + j * 3 + 1, none⟩ = some (.int .i64 l[j].f) ∧ w'.cell? ⟨b, off + j * 3 + 2, none⟩ = some (.int .i64 l[j].t)) := Lib.hid fun w' hb' j hj =>
    ⟨(hL.hb (by omega)).1, keepc hb' (hcell j hj 0 _ rfl), keepc hb' (hcell j hj 1 _ rfl), keepc hb' (hcell j hj 2 _ rfl)⟩
  have HC := Lib.hid hcall
  have HZ := Lib.hid hsz
  clear hL hcell hcall hsz
  go_enter Tryz.func136, Tryz.ntmps136
  go_wp2_with fail
  go_loopw [11] (fun i wr => ∃ (j : Nat) (D : DataW Unit), j ≤ l.length ∧ i = .int .i64 j ∧ Hid (wr.ownsMap Tryz.prog 9 (plainElem (H := Unit) Tryz.prog 3) w.heap.size j D) ∧ Hid (CntS D ((l.take j).map fun x => x.n.data.toList)) ∧ Hid (Below w.heap.size w wr)) (fun i _ => l.length - (intOf i).toNat)
  case atStart => exact ⟨0, .map [], Nat.zero_le _, rfl, Lib.hid (World.ownsMap_made _ _ _ _), Lib.hid CntS.start, Lib.hid ((Below.refl _ _).alloc (Nat.le_refl _) _)⟩
  case round =>
    obtain ⟨j, D, hj, rfl, HO, HD, HB⟩ := hrel
    by_cases hlt : j < l.length
    · have hji : (j : Int) < (l.length : Int) := by omega
      obtain ⟨rfl, y0, y1, y2⟩ := HE.out _ HB.out j hlt
      have hkey : keyOf Tryz.prog 9 (.string l[j].n) = some (.string l[j].n.data.toList) := keyOf_string_mk Tryz.underlying9 (HZ.out l[j] (List.getElem_mem hlt))
      have HT : Hid (((l.take (j + 1)).map fun x => x.n.data.toList) = ((l.take j).map fun x => x.n.data.toList) ++ [l[j].n.data.toList]) := Lib.hid (by rw [List.take_succ_eq_append_getElem hlt, List.map_append]; rfl)
      have hcnt : (((l.take j).map fun x => x.n.data.toList).count l[j].n.data.toList : Nat) ≤ 1000000 := by
        have h1 : ((l.take j).map fun x => x.n.data.toList).count l[j].n.data.toList ≤ ((l.take j).map fun x => x.n.data.toList).length := List.count_le_length
        rw [List.length_map, List.length_take] at h1
        omega
      have HCj := Lib.hid (fun W => HC.out W l[j])
      clear HE HC HZ
      generalize ((l.take j).map fun x => x.n.data.toList) = N at *
      generalize hN2 : ((l.take (j + 1)).map fun x => x.n.data.toList) = N2 at *
      have HN2 := Lib.hid hN2
      clear hN2
      generalize l[j] = x at *
      have HA := Lib.hid ((Below.refl wr.heap.size wr).alloc (Nat.le_refl _) (.cells #[.string x.n, .int .i64 x.f, .int .i64 x.t] 121))
      have HBA := Lib.hid (HB.out.alloc HB.out.size (.cells #[.string x.n, .int .i64 x.f, .int .i64 x.t] 121))
      obtain ⟨xn, xf, xt⟩ := x
      simp only at *
      go_wp2_with (first
        | (go_at_fn g; (with_reducible refine (HCj.out _).mono ?_); rintro e w1 ⟨rfl, hb1⟩
           have HO1 := Lib.hid ((HO.out.kept (gr_bel none HA.out) (by simp)).kept (gr_bel none hb1) (by simp))
           have HB1 := Lib.hid (HBA.out.trans (hb1.mono HBA.out.size))
           obtain ⟨cc, hrun, hat, -⟩ := HO1.out.lookup_int lawS Tryz.underlying189 Tryz.underlying3 (zeroI _) hkey
           have hcc : cc = (N.count xn.data.toList : Nat) := by
             have h2 := HD.out.at' xn.data.toList
             rw [hat] at h2
             simpa using h2
           have HW : Hid (wrap64 (cc + 1) = cc + 1) := Lib.hid (by unfold wrap64; omega)
           have HCC := Lib.hid hcc
           clear hat hcc hb1)
        | (at_mapUpdate; refine wpList_mapUpdate_own _ rfl _ _ _ 189 rfl 9 3 lawS Tryz.underlying189 _ w.heap.size j D rfl HO1.out (by unfold maxLen; omega) _ _ _ rfl rfl hkey _ [] (plainElem_int Tryz.underlying3 (wrap64_wf _)) ?_))
      intro w5 hown5 hg5
      rw [HW.out] at hown5
      have HO5 := Lib.hid hown5
      have HD5 : Hid (CntS (D.put (.string xn.data.toList) (.lit (.int .i64 (cc + 1)))) N2) := Lib.hid (by rw [HT.out]; exact HD.out.step xn.data.toList cc HCC.out)
      have HB5 : Hid (Below w.heap.size w w5) := Lib.hid (HB1.out.grown hg5 HB1.out.size (fun j hj => by cases hj; exact Nat.le_refl _))
      clear hown5 hg5 hrun HO1 HO HD HB HA HBA HCj HB1 HT HW HCC
      go_wp2_with fail
      go_round
      case rel => exact ⟨j + 1, _, by omega, by go_num, HO5, by rw [HN2.out]; exact HD5, HB5⟩
      case measure => simp [intOf]; omega
    · have hji : ¬ (j : Int) < (l.length : Int) := by omega
      obtain rfl : j = l.length := by omega
      rw [List.take_length] at HD
      clear HE HC HZ
      go_wp2_with fail
      go_ret
      exact ⟨rfl, D, HO.out, HD.out, HB.out⟩
end Go.Proofs.YtabdgnigmlpeaaaGreatDoor
/- counts of numbers (counts[int,int], of distanceRouted's passages). -/
namespace Go.Proofs.YtabdgnigmlpeaaaGreatDoor
open Go.RowKit Go.Maps Go.WideMaps

set_option maxRecDepth 100000 in
theorem lawI : Keyed Tryz.prog 3 := int_keyed Tryz.underlying3
/-- The map holds how often each number stands in l. -/
structure CntI (D : DataW Unit) (l : List Int) : Prop where
  im : IsMap D
  at' : ∀ k : Int, D.atKey (.int .i64 k) (.lit (.int .i64 0)) = .lit (.int .i64 (l.count k : Nat))
theorem CntI.start : CntI (.map []) [] := ⟨isMap_empty, fun _ => rfl⟩
theorem CntI.step {D : DataW Unit} {l : List Int} (h : CntI D l) (k : Int) (c : Int) (hc : c = (l.count k : Nat)) : CntI (D.put (.int .i64 k) (.lit (.int .i64 (c + 1)))) (l ++ [k]) := by
  subst hc
  refine ⟨h.im.put _ _, fun k2 => ?_⟩
  by_cases he : k2 = k
  · subst he
    rw [atKey_put_same h.im (by trivial)]
    simp [List.count_append]
  · rw [atKey_put_other (by intro e; exact he (by simpa using e)), h.at']
    simp [List.count_append, Ne.symm he]
set_option maxHeartbeats 4000000 in
theorem counts_int {l : List Int} (g : Nat) (eg : ∀ args w, (callFunc g args).run Tryz.prog w = .ok (.enter g args) w) {q : Option Addr} {k : Nat} {w : World} (h : ReadsI w (.slice q l.length k) l) (hw : ∀ x ∈ l, (Lit.int .i64 x).wf = true)
    (hcall : ∀ (W : World) (x : Int), Calls Tryz.prog g #[.int .i64 x] W fun e w' => e = .returned (.int .i64 x) ∧ Below W.heap.size W w') :
    Calls Tryz.prog 156 #[.slice q l.length k, .func (Fn.func g) #[] #[]] w fun e w' => ∃ D, e = .returned (.map (some w.heap.size)) ∧ w'.ownsMap Tryz.prog 3 (plainElem (H := Unit) Tryz.prog 3) w.heap.size l.length D ∧ CntI D l ∧ Below w.heap.size w w' := by
  have hmm := @run_makeMap Tryz.prog
  obtain ⟨p0, cap0, b, h1, hl, h3, hcell, h5, h6⟩ := h
  obtain ⟨rfl, -, rfl⟩ := Value.slice.inj h1
  have HE : Hid (∀ w', Below w.heap.size w w' → ∀ j (h : j < l.length), q = some ⟨b, 0, none⟩ ∧ w'.cell? ⟨b, j, none⟩ = some (.int .i64 l[j])) := Lib.hid fun w' hb' j hj =>
    ⟨h3 (by rintro rfl; simp at hj), keepc hb' (hcell j hj)⟩
  have HC := Lib.hid hcall
  have HZ := Lib.hid hw
  clear h1 h3 hcell hcall hw
  go_enter Tryz.func156, Tryz.ntmps156
  go_wp2_with fail
  go_loopw [11] (fun i wr => ∃ (j : Nat) (D : DataW Unit), j ≤ l.length ∧ i = .int .i64 j ∧ Hid (wr.ownsMap Tryz.prog 3 (plainElem (H := Unit) Tryz.prog 3) w.heap.size j D) ∧ Hid (CntI D (l.take j)) ∧ Hid (Below w.heap.size w wr)) (fun i _ => l.length - (intOf i).toNat)
  case atStart => exact ⟨0, .map [], Nat.zero_le _, rfl, Lib.hid (World.ownsMap_made _ _ _ _), Lib.hid CntI.start, Lib.hid ((Below.refl _ _).alloc (Nat.le_refl _) _)⟩
  case round =>
    obtain ⟨j, D, hj, rfl, HO, HD, HB⟩ := hrel
    by_cases hlt : j < l.length
    · have hji : (j : Int) < (l.length : Int) := by omega
      obtain ⟨rfl, y0⟩ := HE.out _ HB.out j hlt
      have hkey : keyOf Tryz.prog 3 (.int .i64 l[j]) = some (.int .i64 l[j]) := keyOf_int_mk Tryz.underlying3 (HZ.out l[j] (List.getElem_mem hlt))
      have HT : Hid (l.take (j + 1) = l.take j ++ [l[j]]) := Lib.hid (List.take_succ_eq_append_getElem hlt)
      have hcnt : ((l.take j).count l[j] : Nat) ≤ 1000000 := by
        have h1 : (l.take j).count l[j] ≤ (l.take j).length := List.count_le_length
        rw [List.length_take] at h1
        omega
      have HCj := Lib.hid (fun W => HC.out W l[j])
      clear HE HC HZ
      generalize l.take j = N at *
      generalize hN2 : l.take (j + 1) = N2 at *
      have HN2 := Lib.hid hN2
      clear hN2
      generalize l[j] = x at *
      go_wp2_with (first
        | (go_at_fn g; (with_reducible refine (HCj.out _).mono ?_); rintro e w1 ⟨rfl, hb1⟩
           have HO1 := Lib.hid (HO.out.kept (gr_bel none hb1) (by simp))
           have HB1 := Lib.hid (HB.out.trans (hb1.mono HB.out.size))
           obtain ⟨cc, hrun, hat, -⟩ := HO1.out.lookup_int lawI Tryz.underlying68 Tryz.underlying3 (zeroI _) hkey
           have hcc : cc = (N.count x : Nat) := by
             have h2 := HD.out.at' x
             rw [hat] at h2
             simpa using h2
           have HW : Hid (wrap64 (cc + 1) = cc + 1) := Lib.hid (by unfold wrap64; omega)
           have HCC := Lib.hid hcc
           clear hat hcc hb1)
        | (at_mapUpdate; refine wpList_mapUpdate_own _ rfl _ _ _ 68 rfl 3 3 lawI Tryz.underlying68 _ w.heap.size j D rfl HO1.out (by unfold maxLen; omega) _ _ _ rfl rfl hkey _ [] (plainElem_int Tryz.underlying3 (wrap64_wf _)) ?_))
      intro w5 hown5 hg5
      rw [HW.out] at hown5
      have HO5 := Lib.hid hown5
      have HD5 : Hid (CntI (D.put (.int .i64 x) (.lit (.int .i64 (cc + 1)))) N2) := Lib.hid (by rw [HT.out]; exact HD.out.step x cc HCC.out)
      have HB5 : Hid (Below w.heap.size w w5) := Lib.hid (HB1.out.grown hg5 HB1.out.size (fun j hj => by cases hj; exact Nat.le_refl _))
      clear hown5 hg5 hrun HO1 HO HD HB HCj HB1 HT HW HCC
      go_wp2_with fail
      go_round
      case rel => exact ⟨j + 1, _, by omega, by go_num, HO5, by rw [HN2.out]; exact HD5, HB5⟩
      case measure => simp [intOf]; omega
    · have hji : ¬ (j : Int) < (l.length : Int) := by omega
      obtain rfl : j = l.length := by omega
      rw [List.take_length] at HD
      clear HE HC HZ
      go_wp2_with fail
      go_ret
      exact ⟨rfl, D, HO.out, HD.out, HB.out⟩
end Go.Proofs.YtabdgnigmlpeaaaGreatDoor
/- Names. -/
namespace Go.Proofs.YtabdgnigmlpeaaaGreatDoor
open Go.RowKit

def keywords : List Bs := [[99, 111, 117, 114, 115, 101], [109, 97, 116, 115], [115, 116, 97, 114, 116], [112, 97, 115, 115], [101, 110, 100], [108, 101, 103], [116, 111], [100, 105, 115, 116, 97, 110, 99, 101], [103, 117, 110], [99, 104, 105, 112], [115, 108, 111, 116], [108, 97, 112, 115], [108, 97, 112], [99, 117, 116, 111, 102, 102], [101, 120, 116, 114, 97], [119, 97, 118, 101], [111, 102, 102, 101, 110, 99, 101], [111, 117, 116], [99, 97, 116, 101, 103, 111, 114, 121], [112, 114, 105, 122, 101], [97, 108, 108], [116, 105, 101, 115], [105, 102], [101, 108, 115, 101], [97, 110, 100], [111, 114], [110, 111, 116], [111, 108, 100, 101, 114], [121, 111, 117, 110, 103, 101, 114], [98, 105, 98], [100, 114, 97, 119], [102, 105, 101, 108, 100], [115, 104, 111, 114, 116], [102, 97, 117, 108, 116, 115], [109, 105, 115, 115, 101, 115], [115, 116, 114, 97, 121, 115], [119, 105, 110, 100, 111, 119], [114, 101, 115, 105, 100, 117, 97, 108], [100, 114, 105, 102, 116], [112, 114, 111, 116, 101, 115, 116], [102, 101, 101], [100, 101, 97, 100, 108, 105, 110, 101]]
set_option maxHeartbeats 4000000 in
set_option maxRecDepth 100000 in
theorem keyword_any (l : Bs) (w : World) : Calls Tryz.prog 131 #[.string (S l)] w fun e w' => e = .returned (.bool (keywords.contains l)) ∧ w' = w := by
  generalize hk : keywords.contains l = k
  have HK := Lib.hid hk
  clear hk
  go_enter Tryz.func131, Tryz.ntmps131
  go_wp2_with fail
  all_goals (try (rename_i ha hb; first | (rw [ha] at hb; exact absurd hb (by decide)) | (rw [hb] at ha; exact absurd ha (by decide)) | (go_ret; refine ⟨?_, rfl⟩; rw [← HK.out]; rw [S_toList] at hb; have he := eq_of_beq hb; rw [he]; rfl)))
  go_ret
  refine ⟨?_, rfl⟩
  rw [← HK.out]
  simp only [S_toList] at *
  simp_all [keywords]
/-- A name: a letter, then letters, digits and low lines; at most 24; no keyword. -/
def nameE (l : Bs) : Bool := !l.isEmpty && (decide (l.length ≤ 24) && ((l.take 1).all letB.contains && (l.all nameB.contains && !keywords.contains l)))
theorem trim_any (s c : Bs) (hc : c = letB ∨ c = nameB) (w : World) :
    Calls Tryz.prog 130 #[.string (S s), .string (S c)] w fun e w' => e = .returned (.string (S (s.dropWhile c.contains))) ∧ Below w.heap.size w w' := by
  have := Any.strings_TrimLeft_laid Tryz.lays161 (by kernel_rfl) (S s) (S c) w (by rw [S_size]; rcases hc with rfl | rfl <;> decide) (by rw [S_data]; rcases hc with rfl | rfl <;> exact ascii_of _ (by decide))
  rw [S_data, S_data] at this
  exact this.mono fun e w' h => ⟨h.1, h.2⟩
theorem dw_yes (p : UInt8 → Bool) : ∀ l : Bs, l.all p = true → l.dropWhile p = []
  | [], _ => rfl
  | a :: l, h => by
    rw [List.all_cons, Bool.and_eq_true] at h
    rw [List.dropWhile_cons, if_pos h.1, dw_yes p l h.2]
theorem dw_no (p : UInt8 → Bool) : ∀ l : Bs, l.all p = false → l.dropWhile p ≠ []
  | [], h => by simp at h
  | a :: l, h => by
    rw [List.dropWhile_cons]
    cases hp : p a with
    | true =>
      rw [if_pos rfl]
      refine dw_no p l ?_
      rw [List.all_cons, hp, Bool.true_and] at h
      exact h
    | false => rw [if_neg (by decide)]; simp
theorem drop_all (s c : Bs) : (s.all c.contains = true → s.dropWhile c.contains = []) ∧ (s.all c.contains = false → (s.dropWhile c.contains).isEmpty = false) := by
  refine ⟨dw_yes _ s, fun h => ?_⟩
  have := dw_no _ s h
  simpa using this
theorem S_eta (s : ByteArray) : S s.data.toList = s := by
  obtain ⟨d⟩ := s
  simp [S]
theorem extract1 (l : Bs) : (S l).extract 0 1 = S (l.take 1) := by
  apply ByteArray.ext
  unfold S
  simp [ByteArray.data_extract]
set_option maxHeartbeats 4000000 in
set_option maxRecDepth 100000 in
theorem isName_any (l : Bs) (w : World) : Calls Tryz.prog 60 #[.string (S l)] w fun e w' => e = .returned (.bool (nameE l)) ∧ Below w.heap.size w w' := by
  cases l with
  | nil => exact (name0_any w).mono fun e w' h => h
  | cons a r =>
    have HB := Lib.hid (Below.refl w.heap.size w)
    have hl : (S (a :: r)).size = r.length + 1 := by rw [S_size]; simp
    have he : ((S (a :: r)).toList == []) = false := by rw [S_toList]; rfl
    have e0 : ((S []).toList == ([] : Bs)) = true := by rw [S_toList]; rfl
    have hx : (S (a :: r)).extract 0 1 = S [a] := extract1 (a :: r)
    have H1 : Hid (∀ W, Calls Tryz.prog 130 #[.string (S [a]), .string (S letB)] W fun e w' => e = .returned (.string (S ([a].dropWhile letB.contains))) ∧ Below W.heap.size W w') := Lib.hid fun W => trim_any [a] letB (.inl rfl) W
    have H2 : Hid (∀ W, Calls Tryz.prog 130 #[.string (S (a :: r)), .string (S nameB)] W fun e w' => e = .returned (.string (S ((a :: r).dropWhile nameB.contains))) ∧ Below W.heap.size W w') := Lib.hid fun W => trim_any (a :: r) nameB (.inr rfl) W
    have H3 : Hid (∀ W, Calls Tryz.prog 131 #[.string (S (a :: r))] W fun e w' => e = .returned (.bool (keywords.contains (a :: r))) ∧ w' = W) := Lib.hid fun W => keyword_any (a :: r) W
    obtain ⟨y1, n1⟩ := drop_all [a] letB
    obtain ⟨y2, n2⟩ := drop_all (a :: r) nameB
    have hn : nameE (a :: r) = (decide (r.length + 1 ≤ 24) && ([a].all letB.contains && ((a :: r).all nameB.contains && !keywords.contains (a :: r)))) := by unfold nameE; simp
    rw [hn]
    clear hn
    generalize [a].dropWhile letB.contains = d1 at *
    generalize (a :: r).dropWhile nameB.contains = d2 at *
    generalize [a].all letB.contains = q1 at *
    generalize (a :: r).all nameB.contains = q2 at *
    generalize keywords.contains (a :: r) = q3 at *
    generalize S (a :: r) = s at *
    generalize S [a] = s1 at *
    generalize r.length = n at *
    unfold S letB at H1
    unfold S nameB letB at H2
    simp only [List.cons_append, List.nil_append] at H2
    by_cases h24 : n + 1 ≤ 24
    · have k1 : (s.size : Int) ≤ 24 := by omega
      have k2 : (1 : Int) ≤ (s.size : Int) := by omega
      have k3 : 1 ≤ s.size := by omega
      cases q1 with
      | true =>
        obtain rfl := y1 rfl
        cases q2 with
        | true =>
          obtain rfl := y2 rfl
          clear y1 n1 y2 n2
          go_enter Tryz.func60, Tryz.ntmps60
          go_wp2_with (first | (go_at_call 130; (with_reducible refine (H1.out _).mono ?_); rintro e w1 ⟨rfl, hb⟩; have HB1 := Lib.hid hb; clear hb) | (go_at_call 130; (with_reducible refine (H2.out _).mono ?_); rintro e w2 ⟨rfl, hb⟩; have HB2 := Lib.hid (HB1.out.trans (hb.mono HB1.out.size)); clear hb) | (go_at_call 131; (with_reducible refine (H3.out _).mono ?_); rintro e w3 ⟨rfl, rfl⟩))
          go_ret
          exact ⟨by simp [h24], HB2.out⟩
        | false =>
          have m2 := n2 rfl
          have m2' : ¬ d2 = [] := by simpa using m2
          clear y1 n1 y2 n2
          go_enter Tryz.func60, Tryz.ntmps60
          go_wp2_with (first | (go_at_call 130; (with_reducible refine (H1.out _).mono ?_); rintro e w1 ⟨rfl, hb⟩; have HB1 := Lib.hid hb; clear hb) | (go_at_call 130; (with_reducible refine (H2.out _).mono ?_); rintro e w2 ⟨rfl, hb⟩; have HB2 := Lib.hid (HB1.out.trans (hb.mono HB1.out.size)); clear hb))
          go_ret
          exact ⟨by simp, HB2.out⟩
      | false =>
        have m1 := n1 rfl
        have m1' : ¬ d1 = [] := by simpa using m1
        clear y1 n1 y2 n2
        go_enter Tryz.func60, Tryz.ntmps60
        go_wp2_with (go_at_call 130; (with_reducible refine (H1.out _).mono ?_); rintro e w1 ⟨rfl, hb⟩; have HB1 := Lib.hid hb; clear hb)
        go_ret
        exact ⟨by simp, HB1.out⟩
    · have k1 : ¬ (s.size : Int) ≤ 24 := by omega
      clear y1 n1 y2 n2
      go_enter Tryz.func60, Tryz.ntmps60
      go_wp2_with fail
      go_ret
      exact ⟨by simp, HB.out⟩
end Go.Proofs.YtabdgnigmlpeaaaGreatDoor
