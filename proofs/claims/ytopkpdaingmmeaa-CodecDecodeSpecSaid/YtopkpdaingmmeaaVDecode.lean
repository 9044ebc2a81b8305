/- The reading of a value, and of many. -/
import Derived.Test.YtopkpdaingmmeaaVRow
import Derived.Laws.BytesArg
namespace Go.Proofs.Ytopkpdaingmmeaa
open Go.RowKit

/-- What the reading of a value comes to. -/
def ValPost (w : World) (lo ib : Nat) (o : Option (V × List UInt8)) (e : Ending) (w' : World) : Prop :=
  Kept w w' ib none ∧ match o with
    | none => e = .panicked noCode
    | some (v, r) => ∃ p cap, e = .returned (vV v p cap) ∧ VIn w' (w.heap.size ≤ ·) v p cap ∧ Inp w' lo ib r
def ManyPost (w : World) (lo ib : Nat) (o : Option (List V × List UInt8)) (e : Ending) (w' : World) : Prop :=
  Kept w w' ib none ∧ match o with
    | none => e = .panicked noCode
    | some (l, r) => ∃ p cap, e = .returned (.slice p l.length cap) ∧ VIn w' (w.heap.size ≤ ·) (.mk 3 0 ⟨#[]⟩ l) p cap ∧ Inp w' lo ib r
def ReadOf (d : Nat) : Prop := ∀ (bs : List UInt8) (w : World) (lo ib : Nat), Inp w lo ib bs →
  Calls Try.prog 35 #[.pointer (some ⟨ib, 0, none⟩), .int .i64 d] w (ValPost w lo ib (rdV d bs))

theorem Inp.grown {w w' : World} {lo ib : Nat} {bs : List UInt8} {row : Option Nat} (h : Inp w lo ib bs) (hg : w.grownBy w' row) (hr : ∀ k, row = some k → ib < k) : Inp w' lo ib bs := by
  obtain ⟨h1, h2, h3, h4, p, h5, h6⟩ := h
  have hb : ∀ k, k ≤ ib → w'.heap[k]? = w.heap[k]? := fun k hk => hg.block k (by omega) (fun e => by have := hr k e.symm; omega)
  exact ⟨h1, Nat.lt_of_lt_of_le h2 hg.size, (World.frozen?_of_block (a := ⟨ib, 0, none⟩) (hb ib (Nat.le_refl _))).trans h3, h4, p, (World.cell?_of_block (a := ⟨ib, 0, none⟩) (hb ib (Nat.le_refl _))).trans h5, h6.keep fun k hk => hb k (by omega)⟩
theorem Kept.grown {w w1 w' : World} {ib : Nat} {row : Option Nat} (h : Kept w w1 ib none) (hg : w1.grownBy w' row) (hr : ∀ k, row = some k → w.heap.size ≤ k) : Kept w w' ib none :=
  ⟨hg.os.trans h.os, hg.tape.trans h.tape, hg.output.trans h.output, Nat.le_trans h.size hg.size, fun k hk hne h2 => (hg.block k (Nat.lt_of_lt_of_le hk h.size) (fun e => by have := hr k e.symm; omega)).trans (h.block k hk hne h2)⟩

/-- What is still to come, behind what has been read. -/
def more (es : List El) : Option (List V × List UInt8) → Option (List V × List UInt8)
  | none => none
  | some (l, r) => some (es.map (·.1) ++ l, r)

set_option maxHeartbeats 1000000 in
theorem values_any (d : Nat) (hd : ReadOf d) (n : Nat) (bs : List UInt8) (hn : n ≤ bs.length) (w : World) (lo ib : Nat) (h : Inp w lo ib bs) :
    Calls Try.prog 52 #[.pointer (some ⟨ib, 0, none⟩), .int .i64 n, .int .i64 d] w (ManyPost w lo ib (rdMany (rdV d) n bs)) := by
  have hlen := h.len
  have hib := h.lt
  have H0 := Lib.hid h; clear h
  have HD := Lib.hid hd; clear hd
  go_enter Try.func52, Try.ntmps52
  go_wp2_with fail
  go_loopw [7, 9] (fun v i wr => ∃ (j : Nat) (es : List El) (cs : List UInt8), j ≤ n ∧ i = .int .i64 j ∧ es.length = j ∧ Hid (rdMany (rdV d) n bs = more es (rdMany (rdV d) (n - j) cs)) ∧ Hid (OwnE wr w.heap.size v es) ∧ Hid (Inp wr lo ib cs) ∧ Hid (Kept w wr ib none)) (fun _ i _ => n - (intOf i).toNat)
  case atStart => exact ⟨0, [], bs, Nat.zero_le _, rfl, rfl, Lib.hid (by rw [Nat.sub_zero]; cases rdMany (rdV d) n bs <;> rfl), Lib.hid (OwnE.nil _ _), Lib.hid H0.out, Lib.hid (Kept.refl _ _ _)⟩
  case round =>
    obtain ⟨j, es, cs, hj, rfl, hes, HR, HO, HI, HK⟩ := hrel
    by_cases hlt : j < n
    · have HC := Lib.hid (HD.out cs _ lo ib HI.out)
      have HR2 : Hid (rdMany (rdV d) n bs = more es (match rdV d cs with | none => none | some (v, r) => match rdMany (rdV d) (n - (j + 1)) r with | none => none | some (l, r') => some (v :: l, r'))) := Lib.hid (by
        rw [HR.out, show n - j = n - (j + 1) + 1 by omega, rdMany]; rfl)
      generalize rdV d cs = o at *
      go_wp2_with fail
      go_at_call 35
      refine HC.out.mono ?_
      rintro e w' ⟨hk, he⟩
      have HK2 := Lib.hid (HK.out.trans hk (.inl rfl))
      have HO2 := Lib.hid (HO.out.kept hk hib)
      have hown_lt := HO.out.lt
      have hsz := HK.out.size
      clear hk HC
      cases o with
      | none =>
        change e = .panicked noCode at he
        subst he
        unfold noCode
        go_wp2_with fail
        refine ⟨rfl, HK2.out, ?_⟩
        rw [HR2.out]
        rfl
      | some vr =>
        obtain ⟨v, r⟩ := vr
        obtain ⟨p, cap, rfl, hv, hi⟩ := he
        have HI2 := Lib.hid hi
        have HV := Lib.hid (hv.keep (ok' := fun b => w.heap.size ≤ b ∧ some b ≠ u7.ownBlock) (Nat.le_refl _) fun b hb hbl => ⟨⟨Nat.le_trans hsz hb, fun e2 => by have := (hown_lt b e2.symm).2; omega⟩, rfl⟩)
        have hbase := HK2.out.size
        clear hi hv hown_lt
        have hes2 : es.length ≤ 2000000000000 := by omega
        have HR3 : Hid (rdMany (rdV d) n bs = more (es ++ [(v, p, cap)]) (rdMany (rdV d) (n - (j + 1)) r)) := Lib.hid (by
          rw [HR2.out]
          dsimp only
          cases rdMany (rdV d) (n - (j + 1)) r with
          | none => rfl
          | some lr => simp [more])
        clear HR HR2
        unfold vV
        go_wp2_with (refine wpList_pushV rfl _ _ rfl w.heap.size u7 es HO2.out rfl v p cap _ rfl HV.out (by assumption) (by assumption) ?_; intro g cap' w5 hown5 hgrow)
        go_round
        case rel =>
          have hrow := HO2.out.lt
          exact ⟨j + 1, es ++ [(v, p, cap)], r, by omega, by go_num, by simp; omega, HR3, Lib.hid (by rw [← hes]; exact hown5), Lib.hid (HI2.out.grown hgrow fun k e => by have := hrow k e; omega), Lib.hid (HK2.out.grown hgrow fun k e => (hrow k e).1)⟩
        case measure => simp [intOf]; omega
    · obtain rfl : j = n := by omega
      have HR2 : Hid (rdMany (rdV d) j bs = some (es.map (·.1), cs)) := Lib.hid (by
        rw [HR.out, Nat.sub_self, rdMany]; simp [more])
      obtain ⟨p, cap, rfl, hv⟩ := HO.out.reads (by omega) (k := 3) (n := 0) (s := ⟨#[]⟩) ⟨by decide, by decide⟩ ⟨by decide, by decide⟩ (by decide)
      have HV := Lib.hid hv
      clear hv HR
      go_wp2_with fail
      go_ret
      refine ⟨HK.out, ?_⟩
      rw [HR2.out]
      exact ⟨p, cap, by rw [List.length_map]; rfl, HV.out, HI.out⟩

theorem strOf_bytes (w : World) (lo : Nat) (q : Option Addr) (l : List UInt8) (h : Lies w lo q l) (c : Nat) :
    ∀ dst, Try.prog.underlying dst = some .string → (convert 27 dst (.slice q l.length c)).run Try.prog w = .ok (.string ⟨l.toArray⟩) w := by
  intro dst hd
  by_cases hl : l = []
  · subst hl
    cases q with
    | none => exact run_convert_bytes_nil w _ _ Try.underlying27 Try.underlying5 _ _ dst hd
    | some a =>
      rw [run_convert_bytes_string w 27 dst 5 _ _ _ Try.underlying27 Try.underlying5 hd]
      exact run_bytesToString w a 0 c [] (by simp [loadCells, loadCellsFrom, Sem.run_pure])
  · obtain ⟨b, off, rfl, _, hc⟩ := h hl
    have := run_convert_bytes_arg w 27 5 Try.underlying27 Try.underlying5 b off l.length c (l.map fun x => (x.toNat : Int)) (by simp) (fun i hi => by rw [hc i hi]; simp [List.getD, List.getElem?_eq_getElem hi]) dst hd
    rw [this]
    congr 2
    simp [strOfNums, Function.comp_def]

theorem Kept.alloc0 (w : World) (o : Obj) (ib : Nat) (r : Option Nat) : Kept w (w.alloc o) ib r := ⟨rfl, rfl, rfl, by simp, fun k hk _ _ => Below.heap_alloc w o k hk⟩
theorem Kept.set {w w1 : World} {ib : Nat} (h : Kept w w1 ib none) {b : Nat} (hb : w.heap.size ≤ b) (o : Nat) (u : Value) : Kept w (w1.setCell ⟨b, o, none⟩ u) ib none :=
  ⟨h.os, h.tape, h.output, by simpa using h.size, fun k hk hne h2 => (heap_setCell_other _ _ _ _ (by dsimp only; omega)).trans (h.block k hk hne h2)⟩
theorem Inp.set {w : World} {lo ib : Nat} {bs : List UInt8} (h : Inp w lo ib bs) {b : Nat} (hb : ib < b) (o : Nat) (u : Value) : Inp (w.setCell ⟨b, o, none⟩ u) lo ib bs := by
  obtain ⟨h1, h2, h3, h4, p, h5, h6⟩ := h
  have hb' : ∀ k, k ≤ ib → (w.setCell ⟨b, o, none⟩ u).heap[k]? = w.heap[k]? := fun k hk => heap_setCell_other _ _ _ _ (by dsimp only; omega)
  exact ⟨h1, by simpa using h2, by simpa using h3, h4, p, (World.cell?_of_block (a := ⟨ib, 0, none⟩) (hb' ib (Nat.le_refl _))).trans h5, h6.keep fun k hk => hb' k (by omega)⟩
theorem VIn.set {w : World} {ok : Nat → Prop} {v : V} {p : Option Addr} {cap : Nat} (h : VIn w ok v p cap) {b : Nat} (hb : ¬ ok b) (o : Nat) (u : Value) : VIn (w.setCell ⟨b, o, none⟩ u) ok v p cap :=
  h.keep (by simp) fun k hk _ => ⟨hk, heap_setCell_other _ _ _ _ (by rintro rfl; exact hb hk)⟩
/-- The box of the result, zero so far. -/
structure ZeroBox (w : World) (b : Nat) : Prop where
  d0 : w.cell? ⟨b, 0, none⟩ = some (.int .i64 0)
  d1 : w.cell? ⟨b, 1, none⟩ = some (.int .i64 0)
  d2 : w.cell? ⟨b, 2, none⟩ = some (.string ⟨#[]⟩)
  d3 : w.cell? ⟨b, 3, none⟩ = some (.slice none 0 0)
  z0 : w.frozen? ⟨b, 0, none⟩ = false
  z1 : w.frozen? ⟨b, 1, none⟩ = false
  z2 : w.frozen? ⟨b, 2, none⟩ = false
  z3 : w.frozen? ⟨b, 3, none⟩ = false
theorem ZeroBox.new (w : World) : ZeroBox (w.alloc (.cells #[.int .i64 0, .int .i64 0, .string ⟨#[]⟩, .slice none 0 0] 24)) w.heap.size := by
  constructor <;> simp [go_sem]
theorem ZeroBox.kept {w w' : World} {b ib : Nat} (h : ZeroBox w b) (hk : Kept w w' ib none) (hb : b < w.heap.size) (hne : b ≠ ib) : ZeroBox w' b := by
  have hbl := hk.block b hb hne (by simp)
  have c := fun o => World.cell?_of_block (a := ⟨b, o, none⟩) hbl
  have f := fun o => World.frozen?_of_block (a := ⟨b, o, none⟩) hbl
  exact ⟨(c 0).trans h.d0, (c 1).trans h.d1, (c 2).trans h.d2, (c 3).trans h.d3, (f 0).trans h.z0, (f 1).trans h.z1, (f 2).trans h.z2, (f 3).trans h.z3⟩

abbrev set4 (w : World) (b : Nat) (v0 v1 v2 v3 : Value) : World := (((w.setCell ⟨b, 0, none⟩ v0).setCell ⟨b, 1, none⟩ v1).setCell ⟨b, 2, none⟩ v2).setCell ⟨b, 3, none⟩ v3
theorem set4_cells {w : World} {b : Nat} (hz : ZeroBox w b) (v0 v1 v2 v3 : Value) : (set4 w b v0 v1 v2 v3).cell? ⟨b, 0, none⟩ = some v0 ∧ (set4 w b v0 v1 v2 v3).cell? ⟨b, 1, none⟩ = some v1 ∧ (set4 w b v0 v1 v2 v3).cell? ⟨b, 2, none⟩ = some v2 ∧ (set4 w b v0 v1 v2 v3).cell? ⟨b, 3, none⟩ = some v3 := by
  have n01 : (⟨b, 0, none⟩ : Addr) ≠ ⟨b, 1, none⟩ := by simp
  have n02 : (⟨b, 0, none⟩ : Addr) ≠ ⟨b, 2, none⟩ := by simp
  have n03 : (⟨b, 0, none⟩ : Addr) ≠ ⟨b, 3, none⟩ := by simp
  have n12 : (⟨b, 1, none⟩ : Addr) ≠ ⟨b, 2, none⟩ := by simp
  have n13 : (⟨b, 1, none⟩ : Addr) ≠ ⟨b, 3, none⟩ := by simp
  have n23 : (⟨b, 2, none⟩ : Addr) ≠ ⟨b, 3, none⟩ := by simp
  refine ⟨?_, ?_, ?_, ?_⟩
  · rw [World.cell?_setCell_other _ _ _ _ n03.symm, World.cell?_setCell_other _ _ _ _ n02.symm, World.cell?_setCell_other _ _ _ _ n01.symm]
    exact World.cell?_setCell_same _ _ _ hz.d0
  · rw [World.cell?_setCell_other _ _ _ _ n13.symm, World.cell?_setCell_other _ _ _ _ n12.symm]
    exact World.cell?_setCell_same _ _ _ ((World.cell?_setCell_other _ _ _ _ n01).trans hz.d1)
  · rw [World.cell?_setCell_other _ _ _ _ n23.symm]
    exact World.cell?_setCell_same _ _ _ ((World.cell?_setCell_other _ _ _ _ n12).trans ((World.cell?_setCell_other _ _ _ _ n02).trans hz.d2))
  · exact World.cell?_setCell_same _ _ _ ((World.cell?_setCell_other _ _ _ _ n23).trans ((World.cell?_setCell_other _ _ _ _ n13).trans ((World.cell?_setCell_other _ _ _ _ n03).trans hz.d3)))
/-- The value is laid into the result's box: what holds behind it. -/
theorem laid_box {w w3 : World} {lo ib : Nat} {r : List UInt8} {v : V} {p : Option Addr} {cap : Nat} (hib : ib < w.heap.size) (hK : Kept w w3 ib none) (hI : Inp w3 lo ib r) (hz : ZeroBox w3 w.heap.size) (hv : VIn w3 (w.heap.size < ·) v p cap) (v0 v1 v2 v3 : Value) :
    ∃ wf, set4 w3 w.heap.size v0 v1 v2 v3 = wf ∧ wf.cell? ⟨w.heap.size, 0, none⟩ = some v0 ∧ wf.cell? ⟨w.heap.size, 1, none⟩ = some v1 ∧ wf.cell? ⟨w.heap.size, 2, none⟩ = some v2 ∧ wf.cell? ⟨w.heap.size, 3, none⟩ = some v3 ∧
      Kept w wf ib none ∧ Inp wf lo ib r ∧ VIn wf (w.heap.size ≤ ·) v p cap := by
  obtain ⟨c0, c1, c2, c3⟩ := set4_cells hz v0 v1 v2 v3
  have hv2 := (((hv.set (Nat.lt_irrefl _) 0 v0).set (Nat.lt_irrefl _) 1 v1).set (Nat.lt_irrefl _) 2 v2).set (Nat.lt_irrefl _) 3 v3
  exact ⟨_, rfl, c0, c1, c2, c3, (((hK.set (Nat.le_refl _) 0 v0).set (Nat.le_refl _) 1 v1).set (Nat.le_refl _) 2 v2).set (Nat.le_refl _) 3 v3, (((hI.set hib 0 v0).set hib 1 v1).set hib 2 v2).set hib 3 v3,
    hv2.keep (Nat.le_refl _) fun b hb _ => ⟨Nat.le_of_lt hb, rfl⟩⟩
theorem fit_sgn {u : Nat} (h : u < 18446744073709551616) : Fit64 (sgn u) := (uns_fit _).1 (by rw [uns_sgn]; exact h)

set_option maxHeartbeats 1000000 in
theorem value_read (d : Nat) (hd16 : d ≤ 1000) (ih : ∀ d', d = d' + 1 → ReadOf d') : ReadOf d := by
  intro bs w lo ib h
  have hib := h.lt
  have hlo := h.hlo
  have H0 := Lib.hid h; clear h
  go_enter Try.func35, Try.ntmps35
  cases bs with
  | nil =>
    go_wp2_with fail
    go_at_call 48
    refine (take_no 1 _ lo ib [] (H0.out.alloc _) (by simp) (by omega)).mono ?_
    rintro e w' ⟨rfl, rfl⟩
    unfold noCode
    go_wp2_with fail
    have hr : rdV d [] = none := by rw [rdV.eq_def]
    exact ⟨rfl, Kept.alloc0 _ _ _ _, by rw [hr]; rfl⟩
  | cons c bs =>
    go_wp2_with fail
    go_at_call 48
    refine (take_yes 1 _ lo ib (c :: bs) (H0.out.alloc _) (by simp)).mono ?_
    rintro e w1 ⟨q, rfl, hq, hi, hk⟩
    obtain ⟨b, off, rfl, hb, hc⟩ := hq (by simp)
    have e0 := hc 0 (by simp)
    change w1.cell? ⟨b, off, none⟩ = some (.int .u8 c.toNat) at e0
    change Inp w1 lo ib bs at hi
    have HI := Lib.hid hi
    have HK := Lib.hid ((Kept.alloc0 w _ ib none).trans hk (.inl rfl))
    have HZ := Lib.hid ((ZeroBox.new w).kept hk (by simp) (by omega))
    have hsz : w.heap.size < w1.heap.size := by have := hk.size; simp at this; omega
    clear hc hi hq hk
    by_cases hx1 : c.toNat = 1
    · have HR : Hid (rdV d (c :: bs) = match rdNum 0 0 bs with
          | none => none
          | some (u, r') => some (.mk 1 (sgn u) ⟨#[]⟩ [], r')) := Lib.hid (by rw [rdV.eq_def]; dsimp only; rw [if_pos hx1]; rfl)
      have HC := Lib.hid (rdNum_any w1 lo ib bs HI.out)
      generalize rdNum 0 0 bs = o at *
      have hx1' : (c.toNat : Int) = 1 := by omega
      rw [hx1'] at e0
      clear hx1 hx1'
      go_wp2_with fail
      go_at_call 50
      refine HC.out.mono ?_
      rintro e w2 ⟨hk2, he⟩
      have HK2 := Lib.hid (HK.out.trans hk2 (.inl rfl))
      have hz := HZ.out.kept hk2 hsz (by omega)
      clear HC hk2
      cases o with
      | none =>
        change e = .panicked noCode at he
        subst he
        unfold noCode
        go_wp2_with fail
        exact ⟨rfl, HK2.out, by rw [HR.out]; rfl⟩
      | some ur =>
        obtain ⟨u, r⟩ := ur
        obtain ⟨rfl, hu, hi2⟩ := he
        have HI2 := Lib.hid hi2
        obtain ⟨d0, d1, d2, d3, z0, z1, z2, z3⟩ := hz
        clear hi2
        go_wp2_with fail
        go_at_call 49
        refine (signed_any u w2 hu).mono ?_
        rintro e w3 ⟨rfl, rfl⟩
        obtain ⟨wf, hwf, f0, f1, f2, f3, g1, g2, g3⟩ := laid_box hib HK2.out HI2.out ⟨d0, d1, d2, d3, z0, z1, z2, z3⟩ (VIn.leaf (k := 1) (n := sgn u) (s := ⟨#[]⟩) ⟨by decide, by decide⟩ (fit_sgn hu) (by decide)) (.int .i64 1) (.int .i64 (sgn u)) (.string ⟨#[]⟩) (.slice none 0 0)
        unfold set4 at hwf
        have HWF := Lib.hid hwf
        have HG := Lib.hid (And.intro g1 (And.intro g2 g3))
        clear hwf g1 g2 g3
        go_wp2_with fail
        rw [HWF.out]
        refine bodyPost_ret (v := vV (.mk 1 (sgn u) ⟨#[]⟩ []) none 0) ?_ rfl ⟨HG.out.1, ?_⟩
        · simp [results, Try.results35, go_sem, f0, f1, f2, f3, vV]
          exact ⟨rfl, rfl, rfl, rfl⟩
        · rw [HR.out]
          exact ⟨none, 0, rfl, HG.out.2.2, HG.out.2.1⟩
    · by_cases hx2 : c.toNat = 2
      · have HR : Hid (rdV d (c :: bs) = match rdCount bs with
            | none => none
            | some (u, r') => some (.mk 2 0 ⟨(r'.take u).toArray⟩ [], r'.drop u)) := Lib.hid (by
          rw [rdV.eq_def]; dsimp only; rw [if_neg hx1, if_pos hx2]
          unfold rdCount
          cases rdNum 0 0 bs with
          | none => rfl
          | some ur => obtain ⟨u, r⟩ := ur; dsimp only; split <;> rfl)
        have HC := Lib.hid (count_any w1 lo ib bs HI.out)
        generalize rdCount bs = o at *
        have hx2' : (c.toNat : Int) = 2 := by omega
        rw [hx2'] at e0
        clear hx1 hx2 hx2'
        go_wp2_with fail
        go_at_call 51
        refine HC.out.mono ?_
        rintro e w2 ⟨hk2, he⟩
        have HK2 := Lib.hid (HK.out.trans hk2 (.inl rfl))
        have HZ2 := Lib.hid (HZ.out.kept hk2 hsz (by omega))
        have hsz2 : w.heap.size < w2.heap.size := Nat.lt_of_lt_of_le hsz hk2.size
        clear HC hk2
        cases o with
        | none =>
          change e = .panicked noCode at he
          subst he
          unfold noCode
          go_wp2_with fail
          exact ⟨rfl, HK2.out, by rw [HR.out]; rfl⟩
        | some ur =>
          obtain ⟨u, r⟩ := ur
          obtain ⟨rfl, hu, hi2⟩ := he
          have hul := hi2.len
          have HT := Lib.hid (take_yes u w2 lo ib r hi2 hu)
          clear hi2
          go_wp2_with fail
          go_at_call 48
          refine HT.out.mono ?_
          rintro e w3 ⟨q, rfl, hq, hi3, hk3⟩
          have HK3 := Lib.hid (HK2.out.trans hk3 (.inl rfl))
          have hz := HZ2.out.kept hk3 hsz2 (by omega)
          have hcv := strOf_bytes w3 lo q (r.take u) hq u 9 Try.underlying9
          rw [show (r.take u).length = u by rw [List.length_take]; omega] at hcv
          obtain ⟨wf, hwf, f0, f1, f2, f3, g1, g2, g3⟩ := laid_box hib HK3.out hi3 hz (VIn.leaf (k := 2) (n := 0) (s := ⟨(r.take u).toArray⟩) ⟨by decide, by decide⟩ ⟨by decide, by decide⟩ (by show (r.take u).toArray.size ≤ _; rw [List.size_toArray, List.length_take]; omega)) (.int .i64 2) (.int .i64 0) (.string ⟨(r.take u).toArray⟩) (.slice none 0 0)
          unfold set4 at hwf
          have HWF := Lib.hid hwf
          have HG := Lib.hid (And.intro g1 (And.intro g2 g3))
          obtain ⟨d0, d1, d2, d3, z0, z1, z2, z3⟩ := hz
          clear hwf g1 g2 g3 hi3 hk3 hq HT
          generalize hS : (⟨(r.take u).toArray⟩ : ByteArray) = S at *
          have HS := Lib.hid hS; clear hS
          go_wp2_with fail
          rw [HWF.out]
          refine bodyPost_ret (v := vV (.mk 2 0 S []) none 0) ?_ rfl ⟨HG.out.1, ?_⟩
          · simp [results, Try.results35, go_sem, f0, f1, f2, f3, vV]
            exact ⟨rfl, rfl, rfl, rfl⟩
          · rw [HR.out]
            exact ⟨none, 0, rfl, HG.out.2.2, HG.out.2.1⟩
      · by_cases hx3 : c.toNat = 3
        · have hx3' : (c.toNat : Int) = 3 := by omega
          cases d with
          | zero =>
            have HR : Hid (rdV 0 (c :: bs) = none) := Lib.hid (by rw [rdV.eq_def]; dsimp only; rw [if_neg hx1, if_neg hx2, if_pos hx3])
            rw [hx3'] at e0
            go_wp2_with fail
            exact ⟨rfl, HK.out, by rw [HR.out]; rfl⟩
          | succ d =>
            have HR : Hid (rdV (d + 1) (c :: bs) = match rdCount bs with
                | none => none
                | some (u, r') => match rdMany (rdV d) u r' with
                  | none => none
                  | some (l, r'') => some (.mk 3 0 ⟨#[]⟩ l, r'')) := Lib.hid (by
              rw [rdV.eq_def]; dsimp only; rw [if_neg hx1, if_neg hx2, if_pos hx3]
              unfold rdCount
              cases rdNum 0 0 bs with
              | none => rfl
              | some ur =>
                obtain ⟨u, r⟩ := ur
                dsimp only
                by_cases hlu : r.length < u
                · rw [if_pos hlu, if_pos hlu]
                · rw [if_neg hlu, if_neg hlu]; rfl)
            have HC := Lib.hid (count_any w1 lo ib bs HI.out)
            generalize rdCount bs = o at *
            rw [hx3'] at e0
            have hd := ih d rfl
            have HD := Lib.hid hd
            clear hx1 hx2 hx3 hx3' hd ih
            have hd0 : (0 : Int) < ((d + 1 : Nat) : Int) := by omega
            go_wp2_with fail
            go_at_call 51
            refine HC.out.mono ?_
            rintro e w2 ⟨hk2, he⟩
            have HK2 := Lib.hid (HK.out.trans hk2 (.inl rfl))
            have HZ2 := Lib.hid (HZ.out.kept hk2 hsz (by omega))
            have hsz2 : w.heap.size < w2.heap.size := Nat.lt_of_lt_of_le hsz hk2.size
            clear HC hk2
            cases o with
            | none =>
              change e = .panicked noCode at he
              subst he
              unfold noCode
              go_wp2_with fail
              exact ⟨rfl, HK2.out, by rw [HR.out]; rfl⟩
            | some ur =>
              obtain ⟨u, r⟩ := ur
              obtain ⟨rfl, hu, hi2⟩ := he
              have HT := Lib.hid (values_any d HD.out u r hu w2 lo ib hi2)
              have HR2 : Hid (rdV (d + 1) (c :: bs) = match rdMany (rdV d) u r with
                  | none => none
                  | some (l, r'') => some (.mk 3 0 ⟨#[]⟩ l, r'')) := Lib.hid HR.out
              clear hi2 HR
              generalize rdMany (rdV d) u r = om at *
              go_wp2_with fail
              go_at_call 52
              refine HT.out.mono ?_
              rintro e w3 ⟨hk3, he⟩
              have HK3 := Lib.hid (HK2.out.trans hk3 (.inl rfl))
              have hz := HZ2.out.kept hk3 hsz2 (by omega)
              clear HT hk3
              cases om with
              | none =>
                change e = .panicked noCode at he
                subst he
                unfold noCode
                go_wp2_with fail
                exact ⟨rfl, HK3.out, by rw [HR2.out]; rfl⟩
              | some lr =>
                obtain ⟨l, r2⟩ := lr
                obtain ⟨p, cap, rfl, hv, hi3⟩ := he
                obtain ⟨wf, hwf, f0, f1, f2, f3, g1, g2, g3⟩ := laid_box hib HK3.out hi3 hz (hv.keep (ok' := (w.heap.size < ·)) (Nat.le_refl _) fun b hb _ => ⟨Nat.lt_of_lt_of_le hsz2 hb, rfl⟩) (.int .i64 3) (.int .i64 0) (.string ⟨#[]⟩) (.slice p l.length cap)
                unfold set4 at hwf
                have HWF := Lib.hid hwf
                have HG := Lib.hid (And.intro g1 (And.intro g2 g3))
                obtain ⟨d0, d1, d2, d3, z0, z1, z2, z3⟩ := hz
                clear hwf g1 g2 g3 hi3 hv
                go_wp2_with fail
                rw [HWF.out]
                refine bodyPost_ret (v := vV (.mk 3 0 ⟨#[]⟩ l) p cap) ?_ rfl ⟨HG.out.1, ?_⟩
                · simp [results, Try.results35, go_sem, f0, f1, f2, f3, vV]
                  exact ⟨rfl, rfl, rfl, rfl⟩
                · rw [HR2.out]
                  exact ⟨p, cap, rfl, HG.out.2.2, HG.out.2.1⟩
        · have HR : Hid (rdV d (c :: bs) = none) := Lib.hid (by rw [rdV.eq_def]; dsimp only; rw [if_neg hx1, if_neg hx2, if_neg hx3])
          have hy1 : ¬ (c.toNat : Int) = 1 := by omega
          have hy2 : ¬ (c.toNat : Int) = 2 := by omega
          have hy3 : ¬ (c.toNat : Int) = 3 := by omega
          go_wp2_with fail
          exact ⟨rfl, HK.out, by rw [HR.out]; rfl⟩

theorem read_any (d : Nat) (hd : d ≤ 1000) : ReadOf d := by
  induction d with
  | zero => exact value_read 0 hd fun d' h => by omega
  | succ d ih => exact value_read (d + 1) hd fun d' h => by obtain rfl : d' = d := by omega
                                                            exact ih (by omega)
end Go.Proofs.Ytopkpdaingmmeaa
