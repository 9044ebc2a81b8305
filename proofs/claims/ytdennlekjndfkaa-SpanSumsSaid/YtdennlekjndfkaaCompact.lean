/- slices.Compact at spans. -/
import Derived.Test.YtdennlekjndfkaaSort
import Derived.Test.YtdennlekjndfkaaMath4
import Derived.Test.YtdennlekjndfkaaRefC
import Derived.Lib.SliceRun
import Derived.BigRegion
import Derived.Deep.LoopGhost
namespace Go.Proofs.Ytdennlekjndfkaa
open Go.RowKit Go.Sort Go.Lib

/-- The cells from off on hold cur, and may be written. -/
def HoldsL (w : World) (b off : Nat) (cur : List Sp) : Prop := ∀ i (h : i < cur.length),
  (w.cell? ⟨b, off + i * 2, none⟩ = some (.int .i64 cur[i].1) ∧ w.cell? ⟨b, off + i * 2 + 1, none⟩ = some (.int .i64 cur[i].2)) ∧ w.frozen? ⟨b, off + i * 2, none⟩ = false ∧ w.frozen? ⟨b, off + i * 2 + 1, none⟩ = false
theorem HoldsL.of {w : World} {b off : Nat} {l : List Sp} (h : HoldsK encSp 2 w b off l.toArray) : HoldsL w b off l := by
  intro i hi
  have hf := flatK_get l i hi
  have h5 := h (i * 2) (by simp; omega)
  have h6 := h (i * 2 + 1) (by simp; omega)
  rw [hf.1] at h5
  rw [hf.2] at h6
  exact ⟨⟨h5.1, h6.1⟩, h5.2, h6.2⟩
theorem HoldsL.drewN {w : World} {b off : Nat} {l : List Sp} (h : HoldsL w b off l) (n : Nat) : HoldsL (w.drewN n) b off l := h
theorem HoldsL.set {w : World} {b off : Nat} {cur : List Sp} (h : HoldsL w b off cur) (k : Nat) (hk : k < cur.length) (x : Sp) :
    HoldsL ((w.setCell ⟨b, off + k * 2, none⟩ (.int .i64 x.1)).setCell ⟨b, off + k * 2 + 1, none⟩ (.int .i64 x.2)) b off (cur.set k x) := by
  intro i hi
  rw [List.length_set] at hi
  obtain ⟨⟨h1, h2⟩, h3, h4⟩ := h i hi
  obtain ⟨⟨k1, k2⟩, _, _⟩ := h k hk
  refine ⟨?_, by rw [World.frozen?_setCell, World.frozen?_setCell]; exact h3, by rw [World.frozen?_setCell, World.frozen?_setCell]; exact h4⟩
  by_cases e : i = k
  · subst e
    rw [List.getElem_set_self]
    constructor
    · go_simp
    · go_simp
  · rw [List.getElem_set_ne (by omega)]
    have e1 : off + i * 2 ≠ off + k * 2 := by omega
    have e2 : off + i * 2 ≠ off + k * 2 + 1 := by omega
    have e3 : off + i * 2 + 1 ≠ off + k * 2 := by omega
    have e4 : off + i * 2 + 1 ≠ off + k * 2 + 1 := by omega
    constructor
    · rw [World.cell?_setCell_other, World.cell?_setCell_other]
      · exact h1
      · simp
        try omega
      · simp
        try omega
    · rw [World.cell?_setCell_other, World.cell?_setCell_other]
      · exact h2
      · simp
        try omega
      · simp
        try omega

theorem below_setCells (B b : Nat) (hb : B ≤ b) : ∀ (vs : List Value) (o : Nat) (w : World), Below B w (w.setCells b o vs)
  | [], _, w => Below.refl _ _
  | v :: r, o, w => ((Below.refl B w).setCell (p := ⟨b, o, none⟩) hb v).trans (below_setCells B b hb r (o + 1) _)

theorem run_clear2 (w : World) (b o n c : Nat) (hn : 0 < n) (hc : ∀ j, j < n * 2 → (w.cell? ⟨b, o + j, none⟩).isSome = true) (hf : ∀ j, j < n * 2 → w.frozen? ⟨b, o + j, none⟩ = false) :
    ∃ L : List Value, L.length = n * 2 ∧ ∀ ty, (Builtin.clear_ #[24] ty #[.slice (some ⟨b, o, none⟩) n c]).run Try.prog w = .ok (.tuple #[]) (w.setCells b o L) := by
  obtain ⟨z, hz⟩ : ∃ z : Value, z = .agg #[.int .i64 0, .int .i64 0] := ⟨_, rfl⟩
  have hl : (Builtin.zeroCells z.cells n).toList.length = n * 2 := by rw [Array.length_toList, size_zeroCells, hz]; rfl
  refine ⟨(Builtin.zeroCells z.cells n).toList, hl, fun ty => ?_⟩
  have hst := run_storeCells_cells (P := Try.prog) b o (Builtin.zeroCells z.cells n).toList 0 w (by rw [hl]; simpa using hc) (by rw [hl]; simpa using hf) (by
    intro v hv
    rw [hz] at hv
    simp [Builtin.zeroCells, Value.cells] at hv
    obtain ⟨i, _, rfl⟩ := hv
    rcases Nat.mod_two_eq_zero_or_one i with h | h <;> simp [h, Value.oneCell'])
  simp only [Nat.add_zero] at hst
  obtain ⟨m, rfl⟩ : ∃ m, n = m + 1 := ⟨n - 1, by omega⟩
  have hv := fun w => Try.zeroValue23 w
  rw [hz] at hst ⊢
  simp [Builtin.clear_, run_underlying Try.underlying24, hv, hst]

set_option maxRecDepth 100000 in
set_option maxHeartbeats 1000000 in
theorem compact_any (p : Option Addr) (cap : Nat) (l : List Sp) (w : World) (B : Nat) (h : Mut w B p l) (hcap : l.length ≤ cap) (hcap2 : cap ≤ 9223372036854775807) :
    Calls Try.prog 51 #[.slice p l.length cap] w fun e w' => ∃ cap', e = .returned (.slice p (ddS l).length cap') ∧ SpAt w' B p (ddS l) ∧ Below B w w' := by
  have hlen := h.len
  by_cases hn : l.length < 2
  · have HD := Lib.hid (ddS_short l hn)
    have HS := Lib.hid h.reads
    clear h
    go_enter Try.func51, Try.ntmps51
    go_wp2
    go_ret
    exact ⟨cap, by rw [HD.out]; rfl, by rw [HD.out]; exact HS.out, Below.refl _ _⟩
  obtain ⟨b, off, rfl, hBb, hbs, hH⟩ := h.at' (by rintro rfl; simp at hn)
  have HHL := Lib.hid (HoldsL.of hH)
  have HFIT := Lib.hid h.fit
  clear h hH
  go_enter Try.func51, Try.ntmps51
  go_wp2
  go_loopw [3] (fun i wr => ∃ j : Nat, j + 1 ≤ l.length ∧ i = .int .i64 ((j : Int) + 1) ∧ Hid (ddS (l.take (j + 1)) = l.take (j + 1)) ∧ Hid (HoldsL wr b off l) ∧ Hid (Below B w wr)) (fun i _ => l.length - (intOf i).toNat)
  case atStart => exact ⟨0, by omega, rfl, by show _ = _; exact ddS_short _ (by rw [List.length_take]; omega), HHL, Below.refl _ _⟩
  case round =>
    obtain ⟨j, hj, rfl, HDD, HL, HB⟩ := hrel
    by_cases hlt : j + 1 < l.length
    · obtain ⟨⟨c1, c2⟩, _, _⟩ := HL.out j (by omega)
      obtain ⟨⟨d1, d2⟩, _, _⟩ := HL.out (j + 1) hlt
      have HADD := Lib.hid (ddS_add l j hlt)
      have HDROP := Lib.hid (ddS_drop l j hlt)
      have heq := fun w => eqSp l[j + 1].1 l[j + 1].2 l[j].1 l[j].2 w
      have HEQ : Hid ((l[j + 1].1 == l[j].1 && l[j + 1].2 == l[j].2) = true ↔ l[j + 1] = l[j]) := by
        show _ ↔ _
        rw [Prod.ext_iff]; simp
      have HTK := Lib.hid (List.take_succ_eq_append_getElem hlt)
      generalize l[j + 1] = x at *
      generalize l[j] = y at *
      cases hx : (x.1 == y.1 && x.2 == y.2) with
      | true =>
        rw [hx] at heq HEQ
        have HD2 := Lib.hid (HDROP.out (HEQ.out.1 rfl))
        clear hx HEQ HADD HDROP
        go_wp2
        go_quiet (fail)
        go_wp2_with fail
        obtain ⟨wo, hwo⟩ : ∃ wo : World, wo = wr := ⟨_, rfl⟩
        subst hwo
        clear c1 c2 d1 d2 heq HTK
        have HST : Hid ((ddS (l.take (j + 2))).length = j + 1 ∧ ddS (l.take (j + 2)) = l.take (j + 1)) := by
          have e : ddS (l.take (j + 2)) = l.take (j + 1) := HD2.out.trans HDD.out
          exact ⟨by rw [e, List.length_take_of_le (by omega)], e⟩
        go_loopw [3, 5] (fun k i wr => ∃ (q : Nat) (cur D : List Sp), j + 2 + q ≤ l.length ∧ i = .int .i64 ((q : Int) + 1) ∧ k = .int .i64 (D.length : Int) ∧ Hid (D = ddS (l.take (j + 2 + q))) ∧ 1 ≤ D.length ∧ D.length ≤ j + 1 + q ∧ cur.length = l.length ∧ Hid (cur.take D.length = D ∧ ∀ t, j + 1 + q ≤ t → cur[t]? = l[t]?) ∧ Hid (HoldsL wr b off cur) ∧ Hid (Below B w wr)) (fun _ i _ => l.length - (intOf i).toNat)
        case atStart =>
          refine ⟨0, l, ddS (l.take (j + 2)), by omega, by go_num, ?_, rfl, by rw [HST.out.1]; omega, by rw [HST.out.1]; omega, rfl, ⟨by rw [HST.out.1, HST.out.2], fun _ _ => rfl⟩, HL.out.drewN _, below_drewN HB.out _⟩
          rw [HST.out.1]; go_num
        case round =>
          obtain ⟨q, cur, D, hq, rfl, rfl, HD, hD1, hD2, hcl, HC, HL2, HB2⟩ := hrel
          have HCL := Lib.hid hcl
          have hDn : D.length < cur.length := by omega
          by_cases hlt2 : j + 2 + q < l.length
          · have g1 : cur[j + 2 + q]? = l[j + 2 + q]? := HC.out.2 _ (by omega)
            have g2 : cur[j + 1 + q]? = l[j + 1 + q]? := HC.out.2 _ (by omega)
            have e1 : l[j + 2 + q]? = some l[j + 2 + q] := List.getElem?_eq_getElem hlt2
            have e2 : l[j + 1 + q]? = some l[j + 1 + q] := List.getElem?_eq_getElem (by omega)
            have f1 : cur[j + 2 + q]'(by omega) = l[j + 2 + q] := Option.some.inj ((List.getElem?_eq_getElem (by omega)).symm.trans (g1.trans e1))
            have f2 : cur[j + 1 + q]'(by omega) = l[j + 1 + q] := Option.some.inj ((List.getElem?_eq_getElem (by omega)).symm.trans (g2.trans e2))
            have hk1 := HL2.out (j + 2 + q) (by omega)
            have hk2 := HL2.out (j + 1 + q) (by omega)
            have hk3 := HL2.out D.length hDn
            rw [f1, show off + (j + 2 + q) * 2 = off + (j + 1) * 2 + (q + 1) * 2 by omega] at hk1
            rw [f2, show off + (j + 1 + q) * 2 = off + (j + 1) * 2 + q * 2 by omega] at hk2
            obtain ⟨⟨c1, c2⟩, _, _⟩ := hk1
            obtain ⟨⟨d1, d2⟩, _, _⟩ := hk2
            obtain ⟨⟨a1, a2⟩, a3, a4⟩ := hk3
            have HADD := Lib.hid (ddS_add l (j + 1 + q) (by omega))
            have HDROP := Lib.hid (ddS_drop l (j + 1 + q) (by omega))
            have hne := fun w => neSp l[j + 2 + q].1 l[j + 2 + q].2 l[j + 1 + q].1 l[j + 1 + q].2 w
            have HEQ : Hid ((l[j + 2 + q].1 == l[j + 1 + q].1 && l[j + 2 + q].2 == l[j + 1 + q].2) = true ↔ l[j + 2 + q] = l[j + 1 + q]) := by
              show _ ↔ _
              rw [Prod.ext_iff]; simp
            have HADD2 : Hid (l[j + 2 + q] ≠ l[j + 1 + q] → ddS (l.take (j + 2 + (q + 1))) = D ++ [l[j + 2 + q]]) := by
              intro h
              have e : j + 1 + q + 1 = j + 2 + q := by omega
              have := HADD.out (by simp only [e]; exact h)
              simp only [e] at this
              rw [show j + 2 + (q + 1) = j + 2 + q + 1 by omega, this, HD.out]
            have HDROP2 : Hid (l[j + 2 + q] = l[j + 1 + q] → ddS (l.take (j + 2 + (q + 1))) = D) := by
              intro h
              have e : j + 1 + q + 1 = j + 2 + q := by omega
              have := HDROP.out (by simp only [e]; exact h)
              simp only [e] at this
              rw [show j + 2 + (q + 1) = j + 2 + q + 1 by omega, this, HD.out]
            clear g1 g2 e1 e2 f1 f2 HADD HDROP
            generalize l[j + 2 + q] = x at *
            generalize l[j + 1 + q] = y at *
            generalize cur[D.length] = z at *
            clear hcl
            cases hx : (x.1 == y.1 && x.2 == y.2) with
            | true =>
              rw [hx] at hne HEQ
              have HD3 := Lib.hid (HDROP2.out (HEQ.out.1 rfl))
              clear hx HEQ HADD2 HDROP2
              go_wp2
              go_quiet (fail)
              go_wp2
              go_roundw
              case rel => exact ⟨q + 1, cur, D, by omega, by go_num, rfl, HD3.out.symm, hD1, by omega, HCL.out, ⟨HC.out.1, fun t ht => HC.out.2 t (by omega)⟩, HL2.out.drewN _, below_drewN HB2.out _⟩
              case measure => simp [intOf]; omega
            | false =>
              rw [hx] at hne HEQ
              have HD3 := Lib.hid (HADD2.out (fun e => by have := HEQ.out.2 e; cases this))
              clear hx HEQ HADD2 HDROP2
              go_wp2
              go_quiet (fail)
              go_wp2
              go_roundw
              case rel =>
                refine ⟨q + 1, cur.set D.length x, D ++ [x], by omega, by go_num, by simp, HD3.out.symm, by simp, by simp; omega, by rw [List.length_set]; exact HCL.out, ⟨?_, fun t ht => ?_⟩, (HL2.out.drewN _).set _ hDn x, ((below_drewN HB2.out _).setCell hBb _).setCell hBb _⟩
                · rw [List.length_append, List.length_singleton, take_set_self _ _ _ hDn, HC.out.1]
                · rw [List.getElem?_set_ne (by omega)]; exact HC.out.2 t (by omega)
              case measure => simp [intOf]; omega
          · have HDL : Hid (D = ddS l) := by have := HD.out; rw [List.take_of_length_le (by omega)] at this; exact this
            have hdn : D.length < l.length := by omega
            obtain ⟨L, hLl, hcl'⟩ := run_clear2 wr b (off + D.length * 2) (l.length - D.length) (cap - D.length) (by omega)
              (fun t ht => by
                obtain ⟨⟨k1, k2⟩, _, _⟩ := HL2.out (D.length + t / 2) (by omega)
                rcases Nat.mod_two_eq_zero_or_one t with hm | hm
                · rw [show off + D.length * 2 + t = off + (D.length + t / 2) * 2 by omega, k1]; rfl
                · rw [show off + D.length * 2 + t = off + (D.length + t / 2) * 2 + 1 by omega, k2]; rfl)
              (fun t ht => by
                obtain ⟨_, k1, k2⟩ := HL2.out (D.length + t / 2) (by omega)
                rcases Nat.mod_two_eq_zero_or_one t with hm | hm
                · rw [show off + D.length * 2 + t = off + (D.length + t / 2) * 2 by omega, k1]
                · rw [show off + D.length * 2 + t = off + (D.length + t / 2) * 2 + 1 by omega, k2])
            have HLL := Lib.hid hLl
            clear hLl hcl
            go_wp2
            go_ret
            refine ⟨cap, by rw [← HDL.out]; rfl, ?_, HB2.out.trans (below_setCells B b hBb L _ _)⟩
            rw [← HDL.out]
            refine ⟨fun s hs => HFIT.out s (by rw [HDL.out] at hs; exact (ddS_mem l s).1 hs), by omega, fun _ => ⟨b, off, rfl, hBb, Nat.lt_of_lt_of_le hbs (HB2.out.trans (below_setCells B b hBb L _ _)).size, fun i hi => ?_⟩⟩
            obtain ⟨⟨k1, k2⟩, _, _⟩ := HL2.out i (by omega)
            have e1 : cur[i]'(by omega) = D[i] := by
              have h1 : (cur.take D.length)[i]? = D[i]? := by rw [HC.out.1]
              rw [List.getElem?_take_of_lt hi, List.getElem?_eq_getElem (by omega), List.getElem?_eq_getElem hi] at h1
              exact Option.some.inj h1
            rw [e1] at k1 k2
            exact ⟨(World.cell?_setCells_out b L _ wr ⟨b, off + i * 2, none⟩ (fun _ _ => .inl (by show off + i * 2 < _; omega))).trans k1, (World.cell?_setCells_out b L _ wr ⟨b, off + i * 2 + 1, none⟩ (fun _ _ => .inl (by show off + i * 2 + 1 < _; omega))).trans k2⟩
      | false =>
        rw [hx] at heq HEQ
        have HD2 := Lib.hid (HADD.out (fun e => by have := HEQ.out.2 e; cases this))
        clear hx HEQ HADD HDROP
        go_wp2
        go_quiet (fail)
        go_wp2
        go_roundw
        case rel => exact ⟨j + 1, by omega, by go_num, by show _ = _; rw [HD2.out, HTK.out, HDD.out], HL, below_drewN HB.out _⟩
        case measure => simp [intOf]; omega
    · go_wp2
      go_ret
      exact ⟨cap, by have := HDD.out; rw [List.take_of_length_le (by omega)] at this; rw [this]; rfl, by have := HDD.out; rw [List.take_of_length_le (by omega)] at this; rw [this]; exact ⟨HFIT.out, hlen, fun _ => ⟨b, off, rfl, hBb, Nat.lt_of_lt_of_le hbs HB.out.size, fun i hi => (HL.out i hi).1⟩⟩, HB.out⟩
end Go.Proofs.Ytdennlekjndfkaa
