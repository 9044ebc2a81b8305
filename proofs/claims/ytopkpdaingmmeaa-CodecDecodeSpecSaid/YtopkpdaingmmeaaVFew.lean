/- Few: has a value few parts? -/
import Derived.Test.YtopkpdaingmmeaaVSane
namespace Go.Proofs.Ytopkpdaingmmeaa
open Go.RowKit

def stepC (f : V → Nat) (n : Nat) (x : V) : Nat := if n ≤ 1000 then n + f x else n
/-- The parts of a value, down to a depth, up to a limit. -/
def cnt : Nat → V → Nat
  | 0, _ => 1000
  | e + 1, v => if 150 < v.l.length then 1000 else v.l.foldl (stepC (cnt e)) (1 + v.s.size / 200)
theorem foldC_take (f : V → Nat) (l : List V) (n0 j : Nat) (h : j < l.length) : (l.take (j + 1)).foldl (stepC f) n0 = stepC f ((l.take j).foldl (stepC f) n0) l[j] := by
  rw [List.take_succ_eq_append_getElem h, List.foldl_append]; rfl
theorem foldC_stop (f : V → Nat) (l : List V) : ∀ n, 1000 < n → l.foldl (stepC f) n = n := by
  induction l with
  | nil => intro n _; rfl
  | cons x l ih => intro n h; rw [List.foldl_cons, stepC, if_neg (by omega)]; exact ih n h
theorem foldC_split (f : V → Nat) (l : List V) (n0 j : Nat) (h : 1000 < (l.take j).foldl (stepC f) n0) : l.foldl (stepC f) n0 = (l.take j).foldl (stepC f) n0 := by
  have e := congrArg (fun x => List.foldl (stepC f) n0 x) (List.take_append_drop j l)
  simp only [List.foldl_append] at e
  rw [foldC_stop _ _ _ h] at e
  exact e.symm
theorem foldC_mono (f : V → Nat) (l : List V) : ∀ n, n ≤ l.foldl (stepC f) n := by
  induction l with
  | nil => intro n; exact Nat.le_refl _
  | cons x l ih =>
    intro n
    rw [List.foldl_cons]
    refine Nat.le_trans ?_ (ih _)
    unfold stepC
    split <;> omega
/-- A small count: every element's is small, and they add up. -/
theorem foldC_sum (f : V → Nat) (l : List V) : ∀ n, l.foldl (stepC f) n ≤ 1000 → l.foldl (stepC f) n = n + (l.map f).sum := by
  induction l with
  | nil => intro n _; rfl
  | cons x l ih =>
    intro n h
    rw [List.foldl_cons] at h ⊢
    have h1 := foldC_mono f l (stepC f n x)
    have h2 : n ≤ stepC f n x := by unfold stepC; split <;> omega
    rw [ih _ h]
    unfold stepC
    rw [if_pos (by omega)]
    simp only [List.map_cons, List.sum_cons]
    omega
theorem sum_mem (f : V → Nat) (l : List V) (x : V) (h : x ∈ l) : f x ≤ (l.map f).sum := by
  induction l with
  | nil => cases h
  | cons y l ih =>
    simp only [List.map_cons, List.sum_cons]
    rcases List.mem_cons.1 h with rfl | h
    · omega
    · have := ih h; omega
theorem rankL_le (l : List V) (n : Nat) (h : ∀ x ∈ l, rank x ≤ n) : rankL l ≤ n := by
  induction l with
  | nil => rw [rankL]; omega
  | cons x l ih =>
    rw [rankL]
    have h1 := h x (by simp)
    have h2 := ih fun y hy => h y (by simp [hy])
    omega
theorem encL_sum (l : List V) (c : V → Nat) (h : ∀ x ∈ l, (enc x).length ≤ 211 * c x) : (encL l).length ≤ 211 * (l.map c).sum := by
  induction l with
  | nil => simp [encL]
  | cons x l ih =>
    rw [encL, List.length_append]
    simp only [List.map_cons, List.sum_cons]
    have h1 := h x (by simp)
    have h2 := ih fun y hy => h y (by simp [hy])
    omega
theorem num_len10 (u : Nat) (h : u < 18446744073709551616) : (num u).length ≤ 10 := by
  have h1 := num_length u h
  have h2 := Lib.bitLen_le u 64 (by omega) h
  omega
/-- What a small count says. -/
theorem cnt_small (e : Nat) : ∀ v, Fits v → cnt e v ≤ 200 → rank v ≤ e ∧ (enc v).length ≤ 211 * cnt e v ∧ v.l.length ≤ 150 := by
  induction e with
  | zero => intro v _ h; rw [cnt] at h; omega
  | succ e ih =>
    intro v hf h
    obtain ⟨k, n, s, l⟩ := v
    rw [Fits] at hf
    obtain ⟨hn, hs, hl, hfl⟩ := hf
    rw [FitsL_all] at hfl
    rw [cnt] at h ⊢
    change (if 150 < l.length then 1000 else l.foldl (stepC (cnt e)) (1 + s.size / 200)) ≤ 200 at h
    change rank (.mk k n s l) ≤ e + 1 ∧ (enc (.mk k n s l)).length ≤ 211 * (if 150 < l.length then 1000 else l.foldl (stepC (cnt e)) (1 + s.size / 200)) ∧ l.length ≤ 150
    split at h
    · omega
    · next h150 =>
      rw [if_neg h150]
      have hsum := foldC_sum (cnt e) l (1 + s.size / 200) (by omega)
      rw [hsum] at h ⊢
      have hx : ∀ x ∈ l, rank x ≤ e ∧ (enc x).length ≤ 211 * cnt e x := fun x hx => by
        have := sum_mem (cnt e) l x hx
        have h2 := ih x (hfl x hx) (by omega)
        exact ⟨h2.1, h2.2.1⟩
      refine ⟨?_, ?_, by omega⟩
      · rw [rank_mk]
        have := rankL_le l e fun x h => (hx x h).1
        omega
      · have h1 := encL_sum l (cnt e) fun x h => (hx x h).2
        have h2 := num_len10 _ ((uns_fit n).2 hn)
        have h3 := num_len10 s.size hs
        have h4 := num_len10 l.length hl
        have h5 : s.data.toList.length = s.size := by rw [Array.length_toList]; rfl
        rw [enc]
        split
        · rw [List.length_cons]; omega
        · split
          · rw [List.length_cons, List.length_append]; omega
          · rw [List.length_cons, List.length_append]; omega
theorem VAt.fits {w : World} {B : Nat} {v : V} {p : Option Addr} {cap : Nat} (h : VAt w B v p cap) : Fits v := by
  induction h with
  | mk k n s l p cap b off P C hk hn hs hl hc hc2 hp hbb hcell hsub ih =>
    rw [Fits, FitsL_all]
    refine ⟨hn, by omega, by omega, fun x hx => ?_⟩
    obtain ⟨i, hi, rfl⟩ := List.mem_iff_getElem.1 hx
    exact ih i hi

set_option maxHeartbeats 1000000 in
theorem cntF_any (e : Nat) (he : e ≤ 100) : ∀ (v : V) (w : World) (B : Nat) (p : Option Addr) (cap : Nat), VAt w B v p cap →
    Calls Try.prog 38 #[vV v p cap, .int .i64 ((e : Int) - 1)] w fun r w' => r = .returned (.int .i64 (cnt e v)) ∧ cnt e v ≤ 1000000000000 + 1001 * e ∧ Below w.heap.size w w' := by
  induction e with
  | zero =>
    intro v w B p cap h
    rw [cnt]
    rw [show (((0 : Nat) : Int) - 1) = -1 from rfl]
    unfold vV
    have hs := h.sizeS
    go_enter Try.func38, Try.ntmps38
    go_wp2_with fail
    go_ret
    exact ⟨rfl, by omega, (Below.refl _ w).alloc (Nat.le_refl _) _⟩
  | succ e ih =>
    intro v w B p cap h
    obtain ⟨k, n, s, l⟩ := v
    have hl := h.list
    have hlen := h.len
    have hs := h.sizeS
    change LAt w B l p cap at hl
    change l.length ≤ 2600000000000 at hlen
    change s.size ≤ 140737488351232 at hs
    have HB : Hid (∀ o, Below w.heap.size w (w.alloc o)) := Lib.hid fun o => (Below.refl w.heap.size w).alloc (Nat.le_refl _) o
    have HL := Lib.hid hl
    clear h hl
    show Calls Try.prog 38 #[.agg #[.int .i64 k, .int .i64 n, .string s, .slice p l.length cap], .int .i64 (((e + 1 : Nat) : Int) - 1)] w _
    rw [show (((e + 1 : Nat) : Int) - 1) = (e : Int) by omega]
    have HC : Hid (cnt (e + 1) (.mk k n s l) = if 150 < l.length then 1000 else l.foldl (stepC (cnt e)) (1 + s.size / 200)) := Lib.hid (by rw [cnt]; rfl)
    generalize cnt (e + 1) (.mk k n s l) = C at *
    have HIH := Lib.hid (ih (by omega))
    clear ih
    have wd : ¬ (e : Int) < 0 := by omega
    by_cases h150 : 150 < l.length
    · have HC2 : Hid (C = 1000) := Lib.hid (by rw [HC.out, if_pos h150])
      go_enter Try.func38, Try.ntmps38
      go_wp2_with fail
      go_ret
      exact ⟨ret_int (by have := HC2.out; omega), by have := HC2.out; omega, HB.out _⟩
    · have HC2 : Hid (C = l.foldl (stepC (cnt e)) (1 + s.size / 200)) := Lib.hid (by rw [HC.out, if_neg h150])
      clear HC
      go_enter Try.func38, Try.ntmps38
      go_wp2_with fail
      go_loopw [5, 6] (fun m i wr => ∃ j q : Nat, j ≤ l.length ∧ i = .int .i64 j ∧ m = .int .i64 q ∧ q ≤ 1000000000000 + 1001 * (e + 1) ∧ Hid (q = (l.take j).foldl (stepC (cnt e)) (1 + s.size / 200)) ∧ Hid (Below w.heap.size w wr ∧ Box wr w.heap.size k n s (.slice p l.length cap))) (fun _ i _ => l.length - (intOf i).toNat)
      case atStart => exact ⟨0, 1 + s.size / 200, Nat.zero_le _, rfl, by go_num, by omega, Lib.hid rfl, Lib.hid ⟨HB.out _, Box.new w _ _ _ _⟩⟩
      case round =>
        obtain ⟨j, q, hj, rfl, rfl, hq, HF, HB2⟩ := hrel
        obtain ⟨b0, c0, c1, c2, c3⟩ := HB2.out.2
        by_cases hlt : j < l.length
        · by_cases hq1 : q ≤ 1000
          · obtain ⟨b, off, q1, c, rfl, hbs, e0, e1, e2, e3, hx⟩ := HL.out.elem HB2.out.1 j hlt
            have HM := Lib.hid (HIH.out l[j] wr B q1 c hx)
            have HT := Lib.hid (foldC_take (cnt e) l (1 + s.size / 200) j hlt)
            have HT2 : Hid (stepC (cnt e) q l[j] = q + cnt e l[j]) := Lib.hid (by unfold stepC; rw [if_pos hq1])
            unfold vV at HM
            clear hx
            generalize l[j] = x at *
            generalize x.l.length = n1 at *
            generalize x.k = x1 at *
            generalize x.n = x2 at *
            generalize x.s = x3 at *
            generalize cnt e x = f at *
            have hq2 : (q : Int) ≤ 1000 := by omega
            go_wp2_with fail
            go_at_call 38
            refine HM.out.mono ?_
            rintro r w' ⟨rfl, hf, hb'⟩
            have HB3 : Hid (Below w.heap.size w w' ∧ Box w' w.heap.size k n s (.slice (some ⟨b, off, none⟩) l.length cap)) := Lib.hid ⟨HB2.out.1.trans (hb'.mono HB2.out.1.size), HB2.out.2.bel hb' HB2.out.2.lt⟩
            clear hb' HM
            go_wp2_with fail
            go_round
            case rel => exact ⟨j + 1, q + f, by omega, by go_num, by go_num, by omega, Lib.hid (by rw [HT.out, ← HF.out, HT2.out]), HB3⟩
            case measure => simp [intOf]; omega
          · have HS : Hid (C = q) := Lib.hid (by rw [HC2.out, foldC_split _ _ _ j (by rw [← HF.out]; omega), ← HF.out])
            have hq2 : ¬ (q : Int) ≤ 1000 := by omega
            go_wp2_with fail
            go_ret
            exact ⟨ret_int (by rw [HS.out]), by rw [HS.out]; exact hq, HB2.out.1⟩
        · have HS : Hid (C = q) := Lib.hid (by
            have := HF.out
            rw [List.take_of_length_le (by omega)] at this
            rw [HC2.out, this])
          go_wp2_with fail
          go_ret
          exact ⟨ret_int (by rw [HS.out]), by rw [HS.out]; exact hq, HB2.out.1⟩

theorem few1_any (v : V) (w : World) (B : Nat) (p : Option Addr) (cap : Nat) (h : VAt w B v p cap) :
    Calls Try.prog 25 #[vV v p cap, .int .i64 20] w fun e w' => e = .returned (.bool (decide (cnt 21 v ≤ 200))) ∧ Below w.heap.size w w' := by
  have HB : Hid (∀ o, Below w.heap.size w (w.alloc o)) := Lib.hid fun o => (Below.refl w.heap.size w).alloc (Nat.le_refl _) o
  have HC : Hid (∀ o, Calls Try.prog 38 #[vV v p cap, .int .i64 20] (w.alloc o) fun r w' => r = .returned (.int .i64 (cnt 21 v)) ∧ cnt 21 v ≤ 1000000000000 + 1001 * 21 ∧ Below w.heap.size w w') := Lib.hid fun o =>
    (cntF_any 21 (by omega) v (w.alloc o) B p cap (h.bel (HB.out o))).mono fun r w' hh => ⟨hh.1, hh.2.1, (HB.out o).trans (hh.2.2.mono (HB.out o).size)⟩
  clear h
  unfold vV at *
  generalize cnt 21 v = q at *
  go_enter Try.func25, Try.ntmps25
  go_wp2_with fail
  go_at_call 38
  refine (HC.out _).mono ?_
  rintro e w' ⟨rfl, hq, hb⟩
  have HB2 := Lib.hid hb
  clear hb
  by_cases h200 : q ≤ 200
  · have hi : (q : Int) ≤ 200 := by omega
    go_wp2_with fail
    go_ret
    exact ⟨ret_bool (by first | (simp [h200]; done) | (simp [h200]; omega)), HB2.out⟩
  · have hi : ¬ (q : Int) ≤ 200 := by omega
    go_wp2_with fail
    go_ret
    exact ⟨ret_bool (by first | (simp [h200]; done) | (simp [h200]; omega)), HB2.out⟩

theorem few_any (l : List V) (w : World) (B : Nat) (p : Option Addr) (cap : Nat) (h : LAt w B l p cap) :
    Calls Try.prog 11 #[.slice p l.length cap] w fun e w' => e = .returned (.bool (l.all fun v => decide (cnt 21 v ≤ 200))) ∧ Below w.heap.size w w' := by
  have hlen : l.length ≤ 2600000000000 := h.len
  go_enter Try.func11, Try.ntmps11
  go_wp2_with fail
  go_loopw [7] (fun i wr => ∃ j : Nat, j ≤ l.length ∧ i = .int .i64 j ∧ Hid ((l.take j).all (fun v => decide (cnt 21 v ≤ 200)) = true) ∧ Hid (Below w.heap.size w wr)) (fun i _ => l.length - (intOf i).toNat)
  case atStart => exact ⟨0, Nat.zero_le _, rfl, Lib.hid rfl, Lib.hid (Below.refl _ _)⟩
  case round =>
    obtain ⟨j, hj, rfl, HF, HB⟩ := hrel
    by_cases hlt : j < l.length
    · obtain ⟨b, off, q, c, rfl, hbs, e0, e1, e2, e3, hx⟩ := h.elem HB.out j hlt
      have HM : Hid (∀ o, Calls Try.prog 25 #[vV l[j] q c, .int .i64 20] (wr.alloc o) fun e w' => e = .returned (.bool (decide (cnt 21 l[j] ≤ 200))) ∧ Below w.heap.size w w') := Lib.hid fun o =>
        (few1_any l[j] (wr.alloc o) B q c (hx.bel ((Below.refl wr.heap.size wr).alloc (Nat.le_refl _) o))).mono fun e w' h => ⟨h.1, (HB.out.alloc HB.out.size o).trans (h.2.mono (HB.out.alloc HB.out.size o).size)⟩
      have HT : Hid ((l.take (j + 1)).all (fun v => decide (cnt 21 v ≤ 200)) = ((l.take j).all (fun v => decide (cnt 21 v ≤ 200)) && decide (cnt 21 l[j] ≤ 200))) := Lib.hid (by rw [List.take_succ_eq_append_getElem hlt, List.all_append]; simp)
      have HY : Hid (decide (cnt 21 l[j] ≤ 200) = false → l.all (fun v => decide (cnt 21 v ≤ 200)) = false) := Lib.hid fun h1 => by rw [List.all_eq_false]; exact ⟨l[j], List.getElem_mem hlt, by simp [h1]⟩
      unfold vV at HM
      clear hx
      generalize l[j] = x at *
      generalize x.l.length = n1 at *
      generalize x.k = x1 at *
      generalize x.n = x2 at *
      generalize x.s = x3 at *
      generalize decide (cnt 21 x ≤ 200) = f at *
      go_wp2_with fail
      go_at_call 25
      refine (HM.out _).mono ?_
      rintro e w' ⟨rfl, hb'⟩
      have HB2 := Lib.hid hb'
      clear hb' HM
      cases f with
      | true =>
        go_wp2_with fail
        go_round
        case rel => exact ⟨j + 1, by omega, by go_num, Lib.hid (by rw [HT.out, HF.out]; rfl), HB2⟩
        case measure => simp [intOf]; omega
      | false =>
        go_wp2_with fail
        go_ret
        exact ⟨ret_bool (HY.out (by first | rfl | trivial)).symm, HB2.out⟩
    · go_wp2_with fail
      go_ret
      refine ⟨ret_bool ?_, HB.out⟩
      have := HF.out
      rw [List.take_of_length_le (by omega)] at this
      exact this.symm
end Go.Proofs.Ytopkpdaingmmeaa
