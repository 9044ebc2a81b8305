/- The number of bytes of an encoding. -/
import Derived.Test.YtopkpdaingmmeaaVOut
import Derived.Deep.QuietTactic
namespace Go.Proofs.Ytopkpdaingmmeaa
open Go.RowKit

theorem below_drewN {B : Nat} {w w' : World} (h : Below B w w') (n : Nat) : Below B w (w'.drewN n) := ⟨h.os, h.tape, h.output, h.size, h.block⟩
theorem encL_append (a b : List V) : encL (a ++ b) = encL a ++ encL b := by
  induction a with
  | nil => simp [encL]
  | cons x a ih => simp only [List.cons_append, encL, ih, List.append_assoc]
theorem encL_take (l : List V) (k : Nat) (h : k < l.length) : encL (l.take (k + 1)) = encL (l.take k) ++ enc l[k] := by
  rw [List.take_succ_eq_append_getElem h, encL_append]; simp [encL]
theorem encL_mem (l : List V) (x : V) (h : x ∈ l) : (enc x).length ≤ (encL l).length := by
  induction l with
  | nil => cases h
  | cons y l ih =>
    rw [encL, List.length_append]
    rcases List.mem_cons.1 h with rfl | h
    · omega
    · have := ih h; omega
theorem encL_take_le (l : List V) (k : Nat) : (encL (l.take k)).length ≤ (encL l).length := by
  have h := congrArg (fun x => (encL x).length) (List.take_append_drop k l)
  simp only [encL_append, List.length_append] at h
  omega

theorem size_rank (N : Nat) : ∀ (v : V), rank v ≤ N → (enc v).length ≤ 1000000000000 → ∀ (w : World) (B : Nat) (p : Option Addr) (cap : Nat), VAt w B v p cap →
    Calls Try.prog 26 #[vV v p cap] w fun e w' => e = .returned (.int .i64 (enc v).length) ∧ Below w.heap.size w w' := by
  induction N with
  | zero => intro v hv; obtain ⟨k, n, s, l⟩ := v; rw [rank_mk] at hv; omega
  | succ N ih =>
    intro v hv hlen0 w B p cap h
    obtain ⟨k, n, s, l⟩ := v
    have hrl : ∀ x ∈ l, rank x ≤ N := fun x hx => by have := rank_lt k n s l x hx; omega
    have hl := h.list
    have hlen := h.len
    have hfit := h.fitN
    have hs := h.sizeS
    change LAt w B l p cap at hl
    change l.length ≤ 2600000000000 at hlen
    change Fit64 n at hfit
    change s.size ≤ 140737488351232 at hs
    show Calls Try.prog 26 #[.agg #[.int .i64 k, .int .i64 n, .string s, .slice p l.length cap]] w _
    rw [enc] at hlen0 ⊢
    have HB : Hid (∀ o, Below w.heap.size w (w.alloc o)) := Lib.hid fun o => (Below.refl w.heap.size w).alloc (Nat.le_refl _) o
    have HL := Lib.hid hl
    clear h hl
    by_cases h1 : k = 1
    · subst h1
      rw [if_pos rfl] at hlen0 ⊢
      rw [List.length_cons] at hlen0 ⊢
      have HNUM := Lib.hid (numeralSize_any (uns n) · ((uns_fit n).2 hfit))
      generalize (num (uns n)).length = m at *
      go_enter Try.func26, Try.ntmps26
      go_wp2_with fail
      go_at_call 40
      refine (unsigned_any n _ hfit).mono ?_
      rintro e w' ⟨rfl, rfl⟩
      go_wp2_with fail
      go_at_call 39
      refine (HNUM.out _).mono ?_
      rintro e w' ⟨rfl, rfl⟩
      go_wp2_with fail
      go_ret
      exact ⟨ret_int (by omega), HB.out _⟩
    by_cases h2 : k = 2
    · subst h2
      rw [if_neg (by decide), if_pos rfl] at hlen0 ⊢
      rw [List.length_cons, List.length_append, Array.length_toList] at hlen0 ⊢
      change (num s.size).length + s.size + 1 ≤ 1000000000000 at hlen0
      change Calls Try.prog 26 _ w fun e w' => e = .returned (.int .i64 ((num s.size).length + s.size + 1 : Nat)) ∧ _
      have HNUM := Lib.hid (numeralSize_any s.size · (by omega))
      generalize (num s.size).length = m at *
      go_enter Try.func26, Try.ntmps26
      go_wp2_with fail
      go_quiet (first | (go_at_call 39; refine Calls.quiet_of_same (HNUM.out _)))
      go_wp2_with fail
      go_ret
      exact ⟨ret_int (by omega), below_drewN (HB.out _) nq⟩
    · rw [if_neg h1, if_neg h2] at hlen0 ⊢
      rw [List.length_cons, List.length_append] at hlen0 ⊢
      have hnum : l.length < 18446744073709551616 := by omega
      have NH1 := Lib.hid h1
      have HLE := Lib.hid (encL_take_le l)
      have HMEM := Lib.hid (encL_mem l)
      have HIH := Lib.hid ih
      clear ih
      have HNUM := Lib.hid (numeralSize_any l.length · hnum)
      generalize hm : (num l.length).length = m at *
      have HM := Lib.hid hm; clear hm
      generalize hE : (encL l).length = E at *
      have HE := Lib.hid hE; clear hE
      go_enter Try.func26, Try.ntmps26
      go_wp2_with fail
      go_at_call 39
      refine (HNUM.out _).mono ?_
      rintro e w' ⟨rfl, rfl⟩
      go_wp2_with fail
      go_loopw [3, 36] (fun d i wr => ∃ j q : Nat, j ≤ l.length ∧ i = .int .i64 j ∧ d = .int .i64 (1 + m + q : Nat) ∧ q ≤ E ∧ Hid (q = (encL (l.take j)).length) ∧ Hid (Below w.heap.size w wr)) (fun _ i _ => l.length - (intOf i).toNat)
      case atStart => exact ⟨0, 0, Nat.zero_le _, rfl, by simp, Nat.zero_le _, Lib.hid rfl, Lib.hid (HB.out _)⟩
      case round =>
        obtain ⟨j, q, hj, rfl, rfl, hq, HF, HB2⟩ := hrel
        by_cases hlt : j < l.length
        · obtain ⟨b, off, q1, c, rfl, hbs, e0, e1, e2, e3, hx⟩ := HL.out.elem HB2.out j hlt
          have hmem := HMEM.out l[j] (List.getElem_mem hlt)
          have HM : Hid (∀ o, Calls Try.prog 26 #[vV l[j] q1 c] (wr.alloc o) fun e w' => e = .returned (.int .i64 (enc l[j]).length) ∧ Below w.heap.size w w') := Lib.hid fun o =>
            (HIH.out l[j] (hrl _ (List.getElem_mem hlt)) (by omega) (wr.alloc o) B q1 c (hx.bel ((Below.refl wr.heap.size wr).alloc (Nat.le_refl _) o))).mono fun e w' h => ⟨h.1, (HB2.out.alloc HB2.out.size o).trans (h.2.mono (HB2.out.alloc HB2.out.size o).size)⟩
          have hle := HLE.out (j + 1)
          have ht := encL_take l j hlt
          have ht2 := congrArg List.length ht
          rw [List.length_append, ← HF.out] at ht2
          rw [ht2] at hle
          have HT := Lib.hid ht2
          clear ht ht2
          unfold vV at HM
          clear hx
          generalize l[j].l.length = n1 at *
          generalize l[j].k = x1 at *
          generalize l[j].n = x2 at *
          generalize l[j].s = x3 at *
          generalize (enc l[j]).length = f at *
          go_wp2_with fail
          go_at_call 26
          refine (HM.out _).mono ?_
          rintro e w' ⟨rfl, hb'⟩
          have HB3 := Lib.hid hb'
          clear hb' HM
          go_wp2
          go_round
          case rel => exact ⟨j + 1, q + f, by omega, by go_num, by go_num, by omega, Lib.hid HT.out.symm, HB3⟩
          case measure => simp [intOf]; omega
        · have hall : q = E := by
            have := HF.out
            rw [List.take_of_length_le (by omega)] at this
            exact this.trans HE.out
          go_wp2_with fail
          go_ret
          exact ⟨ret_int (by omega), HB2.out⟩
end Go.Proofs.Ytopkpdaingmmeaa
