/- Whether a value is well-formed, and how deep it is: the program's way. -/
import Derived.Test.YtopkpdaingmmeaaVNum
import Derived.BigQuiet
namespace Go.Proofs.Ytopkpdaingmmeaa
open Go.RowKit

theorem formedL_take (l : List V) (k : Nat) (h : k < l.length) : (l.take (k + 1)).all formed = ((l.take k).all formed && formed l[k]) := by
  rw [List.take_succ_eq_append_getElem h, List.all_append]; simp
theorem formedL_no (l : List V) (k : Nat) (h : k < l.length) (h1 : formed l[k] = false) : l.all formed = false := by
  rw [List.all_eq_false]; exact ⟨l[k], List.getElem_mem h, by simp [h1]⟩

/-- What the malformed elements' finder is told of an element. -/
def FormOf (N : Nat) : Prop := ∀ (v : V), rank v ≤ N → ∀ (w : World) (B : Nat) (p : Option Addr) (cap : Nat), VAt w B v p cap →
  Calls Try.prog 30 #[vV v p cap] w fun e w' => e = .returned (.bool (formed v)) ∧ Below w.heap.size w w'

theorem malformed_any {N : Nat} (hN : FormOf N) (v : V) (hv : rank v ≤ N) (w : World) (B : Nat) (p : Option Addr) (cap : Nat) (h : VAt w B v p cap) :
    Calls Try.prog 46 #[vV v p cap] w fun e w' => e = .returned (.bool (!formed v)) ∧ Below w.heap.size w w' := by
  have hb := (Below.refl w.heap.size w).alloc (Nat.le_refl _) (.cells #[.int .i64 v.k, .int .i64 v.n, .string v.s, .slice p v.l.length cap] 24)
  have h' := h.bel hb
  have hw := hN v hv _ B p cap h'
  show Calls Try.prog 46 #[.agg #[.int .i64 v.k, .int .i64 v.n, .string v.s, .slice p v.l.length cap]] w _
  go_enter Try.func46, Try.ntmps46
  go_wp2_with fail
  go_at_call 30
  refine hw.mono ?_
  rintro e w' ⟨rfl, hb'⟩
  go_wp2
  go_ret
  exact ⟨rfl, hb.trans (hb'.mono (by simp))⟩

set_option maxHeartbeats 1000000 in
theorem indexMal_any {N : Nat} (hN : FormOf N) (l : List V) (hl : ∀ x ∈ l, rank x ≤ N) (w : World) (B : Nat) (p : Option Addr) (cap : Nat) (h : LAt w B l p cap) :
    Calls Try.prog 57 #[.slice p l.length cap, .func (.func 46) #[] #[]] w fun e w' => Below w.heap.size w w' ∧ ∃ r : Int, e = .returned (.int .i64 r) ∧ -1 ≤ r ∧ r ≤ l.length ∧ (decide (0 ≤ r) = !l.all formed) := by
  have hlen : l.length ≤ 2600000000000 := h.len
  go_enter Try.func57, Try.ntmps57
  go_wp2
  go_loopw [8] (fun i wr => ∃ k : Nat, k ≤ l.length ∧ i = .int .i64 k ∧ Hid ((l.take k).all formed = true) ∧ Hid (Below w.heap.size w wr)) (fun i _ => l.length - (intOf i).toNat)
  case atStart => exact ⟨0, Nat.zero_le _, rfl, Lib.hid rfl, Lib.hid (Below.refl _ _)⟩
  case round =>
    obtain ⟨k, hk, rfl, HF, HB⟩ := hrel
    by_cases hlt : k < l.length
    · have h' := VAt.bel h HB.out
      obtain ⟨b, off, P, C, rfl, _, hbs, hc⟩ := h'.cells (by show l ≠ []; rintro rfl; simp at hlt)
      obtain ⟨c1, c2, c3, c4, hx⟩ := hc k hlt
      change wr.cell? ⟨b, off + k * 4, none⟩ = some (.int .i64 l[k].k) at c1
      change wr.cell? ⟨b, off + k * 4 + 1, none⟩ = some (.int .i64 l[k].n) at c2
      change wr.cell? ⟨b, off + k * 4 + 2, none⟩ = some (.string l[k].s) at c3
      change wr.cell? ⟨b, off + k * 4 + 3, none⟩ = some (.slice (P k) l[k].l.length (C k)) at c4
      have hm := malformed_any hN l[k] (hl _ (List.getElem_mem hlt)) wr B (P k) (C k) hx
      have HT := Lib.hid (formedL_take l k hlt)
      have HY := Lib.hid (formedL_no l k hlt)
      unfold vV at hm
      clear hc hx h'
      generalize P k = p1 at *
      generalize C k = c1' at *
      generalize l[k].l.length = n1 at *
      generalize l[k].k = x1 at *
      generalize l[k].n = x2 at *
      generalize l[k].s = x3 at *
      generalize formed l[k] = f at *
      have HM := Lib.hid hm; clear hm
      go_wp2_with fail
      go_at_call 46
      refine HM.out.mono ?_
      rintro e w' ⟨rfl, hb'⟩
      have HB2 : Hid (Below w.heap.size w w') := Lib.hid (HB.out.trans (hb'.mono HB.out.size))
      clear hb'
      cases f with
      | true =>
        go_wp2
        go_round
        case rel => exact ⟨k + 1, by omega, by go_num, Lib.hid (by rw [HT.out, HF.out]; rfl), HB2⟩
        case measure => simp [intOf]; omega
      | false =>
        go_wp2
        go_ret
        exact ⟨HB2.out, k, rfl, by omega, by omega, by rw [HY.out trivial]; simp⟩
    · go_wp2
      go_ret
      refine ⟨HB.out, -1, rfl, by omega, by omega, ?_⟩
      have := HF.out
      rw [List.take_of_length_le (by omega)] at this
      rw [this]; rfl

theorem containsMal_any {N : Nat} (hN : FormOf N) (l : List V) (hl : ∀ x ∈ l, rank x ≤ N) (w : World) (B : Nat) (p : Option Addr) (cap : Nat) (h : LAt w B l p cap) :
    Calls Try.prog 47 #[.slice p l.length cap, .func (.func 46) #[] #[]] w fun e w' => e = .returned (.bool (!l.all formed)) ∧ Below w.heap.size w w' := by
  have hi := indexMal_any hN l hl w B p cap h
  go_enter Try.func47, Try.ntmps47
  go_wp2_with fail
  go_at_call 57
  refine hi.mono ?_
  rintro e w' ⟨hb, r, rfl, h1, h2, h3⟩
  go_wp2
  go_ret
  exact ⟨rfl, hb⟩

theorem str_empty (s : ByteArray) : s.toList.isEmpty = decide (s.size = 0) := by
  have e : s.size = s.data.toList.length := by rw [Array.length_toList]; rfl
  rw [ByteArray.toList_eq, e]
  cases s.data.toList <;> simp
theorem len_zero (l : List V) : ((l.length : Int) == 0) = decide (l.length = 0) := by
  by_cases h : l.length = 0
  · rw [h]; rfl
  · rw [decide_eq_false h, beq_eq_false_iff_ne]; omega

theorem formed_rank (N : Nat) : FormOf N := by
  induction N with
  | zero => intro v hv; obtain ⟨k, n, s, l⟩ := v; rw [rank_mk] at hv; omega
  | succ N ih =>
    intro v hv w B p cap h
    obtain ⟨k, n, s, l⟩ := v
    have hrl : ∀ x ∈ l, rank x ≤ N := fun x hx => by have := rank_lt k n s l x hx; omega
    have hl := h.list
    have hlen := h.len
    change LAt w B l p cap at hl
    change l.length ≤ 2600000000000 at hlen
    show Calls Try.prog 30 #[.agg #[.int .i64 k, .int .i64 n, .string s, .slice p l.length cap]] w _
    rw [formed, formedL_all]
    have HB : Hid (∀ o, Below w.heap.size w (w.alloc o)) := Lib.hid fun o => (Below.refl w.heap.size w).alloc (Nat.le_refl _) o
    have HCF : Hid (∀ o, Calls Try.prog 47 #[.slice p l.length cap, .func (.func 46) #[] #[]] (w.alloc o) fun e w' => e = .returned (.bool (!l.all formed)) ∧ Below w.heap.size w w') := Lib.hid fun o =>
      (containsMal_any ih l hrl _ B p cap (VAt.bel hl (HB.out o))).mono fun e w' h => ⟨h.1, (HB.out o).trans (h.2.mono (HB.out o).size)⟩
    clear h hl
    rw [← str_empty, ← len_zero]
    by_cases h1 : k = 1
    · subst h1
      rw [if_pos rfl]
      go_enter Try.func30, Try.ntmps30
      go_wp2_with fail
      all_goals go_ret
      all_goals refine ⟨ret_bool ?_, HB.out _⟩
      all_goals simp_all
    by_cases h2 : k = 2
    · subst h2
      rw [if_neg (by decide), if_pos rfl]
      go_enter Try.func30, Try.ntmps30
      go_wp2_with fail
      all_goals go_ret
      all_goals refine ⟨ret_bool ?_, HB.out _⟩
      all_goals simp_all
    by_cases h3 : k = 3
    · subst h3
      rw [if_neg (by decide), if_neg (by decide), if_pos rfl]
      go_enter Try.func30, Try.ntmps30
      go_wp2_with fail
      all_goals first
        | (go_at_call 47
           refine (HCF.out _).mono ?_
           rintro e w' ⟨rfl, hb'⟩
           go_wp2
           go_ret
           exact ⟨ret_bool (by simp_all), hb'⟩)
        | (go_ret
           exact ⟨ret_bool (by simp_all), HB.out _⟩)
    · rw [if_neg h1, if_neg h2, if_neg h3]
      go_enter Try.func30, Try.ntmps30
      go_wp2_with fail
      go_ret
      exact ⟨rfl, HB.out _⟩
end Go.Proofs.Ytopkpdaingmmeaa
