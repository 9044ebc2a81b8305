/- Equality of values, the program's way. -/
import Derived.Test.YtopkpdaingmmeaaVCatch
namespace Go.Proofs.Ytopkpdaingmmeaa
open Go.RowKit

mutual
/-- Are two values equal? -/
def sm : V → V → Bool
  | .mk k n s l, .mk k' n' s' l' => decide (k = k') && (decide (n = n') && (decide (s = s') && smL l l'))
def smL : List V → List V → Bool
  | [], [] => true
  | x :: r, y :: r' => sm x y && smL r r'
  | [], _ :: _ => false
  | _ :: _, [] => false
end
theorem smL_of (l : List V) : (∀ x ∈ l, ∀ u, sm x u = true ↔ x = u) → ∀ l', smL l l' = true ↔ l = l' := by
  induction l with
  | nil => intro _ l'; cases l' <;> simp [smL]
  | cons x r ih =>
    intro h l'
    cases l' with
    | nil => simp [smL]
    | cons y r' =>
      rw [smL, Bool.and_eq_true, h x (by simp) y, ih (fun z hz => h z (by simp [hz])) r']
      simp
theorem sm_rank (N : Nat) : ∀ v u, rank v ≤ N → (sm v u = true ↔ v = u) := by
  induction N with
  | zero => intro v u hv; obtain ⟨k, n, s, l⟩ := v; rw [rank_mk] at hv; omega
  | succ N ih =>
    intro v u hv
    obtain ⟨k, n, s, l⟩ := v
    obtain ⟨k', n', s', l'⟩ := u
    rw [sm]
    simp only [Bool.and_eq_true, decide_eq_true_iff]
    rw [smL_of l (fun x hx u => ih x u (by have := rank_lt k n s l x hx; omega)) l']
    constructor
    · rintro ⟨rfl, rfl, rfl, rfl⟩; rfl
    · intro h
      injection h with h1 h2 h3 h4
      exact ⟨h1, h2, h3, h4⟩
theorem sm_iff (v u : V) : sm v u = true ↔ v = u := sm_rank _ v u (Nat.le_refl _)
theorem smL_iff (l l' : List V) : smL l l' = true ↔ l = l' := smL_of l (fun x _ u => sm_iff x u) l'
theorem sm_no {v u : V} (h : v ≠ u) : sm v u = false := by
  cases h2 : sm v u with
  | false => rfl
  | true => exact absurd ((sm_iff _ _).1 h2) h
theorem sm_yes {v u : V} (h : v = u) : sm v u = true := (sm_iff _ _).2 h
theorem smL_no {a b : List V} (h : a ≠ b) : smL a b = false := by
  cases h2 : smL a b with
  | false => rfl
  | true => exact absurd ((smL_iff _ _).1 h2) h
theorem smL_yes {a b : List V} (h : a = b) : smL a b = true := (smL_iff _ _).2 h
theorem sm_mk (k n k' n' : Int) (s s' : ByteArray) (l l' : List V) : sm (.mk k n s l) (.mk k' n' s' l') = (decide (k = k') && (decide (n = n') && (decide (s = s') && smL l l'))) := by rw [sm]
theorem str_eq (s s' : ByteArray) : s.toList = s'.toList ↔ s = s' := by
  constructor
  · intro h
    rw [ByteArray.toList_eq, ByteArray.toList_eq] at h
    obtain ⟨d⟩ := s
    obtain ⟨d'⟩ := s'
    exact congrArg ByteArray.mk (Array.toList_inj.1 h)
  · rintro rfl; rfl
theorem sm_mk2 (k n k' n' : Int) (s s' : ByteArray) (l l' : List V) : sm (.mk k n s l) (.mk k' n' s' l') = (decide (k = k') && (decide (n = n') && (decide (s.toList = s'.toList) && smL l l'))) := by
  rw [sm_mk]
  by_cases h : s = s'
  · rw [decide_eq_true h, decide_eq_true ((str_eq _ _).2 h)]
  · rw [decide_eq_false h, decide_eq_false fun h2 => h ((str_eq _ _).1 h2)]
theorem take_eq (a b : List V) (j : Nat) (h1 : j < a.length) (h2 : j < b.length) (h : a.take j = b.take j) (hj : a[j] = b[j]) : a.take (j + 1) = b.take (j + 1) := by
  rw [List.take_succ_eq_append_getElem h1, List.take_succ_eq_append_getElem h2, h, hj]

def SameOf (N : Nat) : Prop := ∀ (v u : V), rank v ≤ N → ∀ (w : World) (B B' : Nat) (p q : Option Addr) (cap c : Nat), VAt w B v p cap → VAt w B' u q c →
  Calls Try.prog 21 #[vV v p cap, vV u q c] w fun e w' => e = .returned (.bool (sm v u)) ∧ Below w.heap.size w w'

set_option maxHeartbeats 1000000 in
theorem equalF_any {N : Nat} (hN : SameOf N) (l l' : List V) (hl : ∀ x ∈ l, rank x ≤ N) (w : World) (B B' : Nat) (p q : Option Addr) (cap c : Nat) (h : LAt w B l p cap) (h' : LAt w B' l' q c) :
    Calls Try.prog 37 #[.slice p l.length cap, .slice q l'.length c, .func (.func 21) #[] #[]] w fun e w' => e = .returned (.bool (smL l l')) ∧ Below w.heap.size w w' := by
  have hlen : l.length ≤ 2600000000000 := h.len
  have hlen' : l'.length ≤ 2600000000000 := h'.len
  by_cases hle : l.length = l'.length
  · rw [← hle]
    have HLE := Lib.hid hle
    clear hle
    go_enter Try.func37, Try.ntmps37
    go_wp2_with fail
    go_loopw [17] (fun i wr => ∃ j : Nat, j ≤ l.length ∧ i = .int .i64 j ∧ Hid (l.take j = l'.take j) ∧ Hid (Below w.heap.size w wr)) (fun i _ => l.length - (intOf i).toNat)
    case atStart => exact ⟨0, Nat.zero_le _, rfl, Lib.hid rfl, Lib.hid (Below.refl _ _)⟩
    case round =>
      obtain ⟨j, hj, rfl, HT, HB⟩ := hrel
      by_cases hlt : j < l.length
      · obtain ⟨b, off, p1, c1, rfl, hbs, e0, e1, e2, e3, hx⟩ := h.elem HB.out j hlt
        obtain ⟨b', off', p2, c2, rfl, hbs', g0, g1, g2, g3, hy⟩ := h'.elem HB.out j (by have := HLE.out; omega)
        have HC : Hid (∀ o o', Calls Try.prog 21 #[vV l[j] p1 c1, vV l'[j] p2 c2] ((wr.alloc o).alloc o') fun e w' => e = .returned (.bool (sm l[j] l'[j])) ∧ Below w.heap.size w w') := Lib.hid fun o o' => by
          have hb2 := ((Below.refl wr.heap.size wr).alloc (Nat.le_refl _) o).alloc (by simp) o'
          exact (hN l[j] l'[j] (hl _ (List.getElem_mem hlt)) _ B B' p1 p2 c1 c2 (hx.bel hb2) (hy.bel hb2)).mono fun e w' h => ⟨h.1, HB.out.trans ((hb2.mono HB.out.size).trans (h.2.mono (Nat.le_trans HB.out.size hb2.size)))⟩
        have HTK := Lib.hid (take_eq l l' j hlt (by have := HLE.out; omega) HT.out)
        have HNE : Hid (l[j] ≠ l'[j] → l ≠ l') := Lib.hid fun hne he => hne (by subst he; rfl)
        have HS := Lib.hid (sm_iff l[j] l'[j])
        unfold vV at HC
        clear hx hy
        generalize l[j] = x at *
        generalize l'[j] = y at *
        generalize x.l.length = n1 at *
        generalize x.k = x1 at *
        generalize x.n = x2 at *
        generalize x.s = x3 at *
        generalize y.l.length = m1 at *
        generalize y.k = y1 at *
        generalize y.n = y2 at *
        generalize y.s = y3 at *
        generalize sm x y = f at *
        go_wp2_with fail
        go_at_call 21
        refine (HC.out _ _).mono ?_
        rintro e w' ⟨rfl, hb'⟩
        have HB3 := Lib.hid hb'
        clear hb' HC
        cases f with
        | true =>
          go_wp2_with fail
          go_round
          case rel => exact ⟨j + 1, by omega, by go_num, Lib.hid (HTK.out (HS.out.1 (by first | rfl | trivial))), HB3⟩
          case measure => simp [intOf]; omega
        | false =>
          go_wp2_with fail
          go_ret
          exact ⟨ret_bool (smL_no (HNE.out fun e => by have := HS.out.2 e; simp at this)).symm, HB3.out⟩
      · have HEQ : Hid (l = l') := Lib.hid (by
          have := HT.out
          have hle := HLE.out
          rwa [List.take_of_length_le (by omega), List.take_of_length_le (by omega)] at this)
        go_wp2_with fail
        go_ret
        exact ⟨ret_bool (smL_yes HEQ.out).symm, HB.out⟩
  · have hne : l ≠ l' := fun e => hle (by rw [e])
    have HNE := Lib.hid (smL_no hne)
    clear hne
    have hle2 : ¬ (l.length : Int) = l'.length := by omega
    generalize l.length = n1 at *
    generalize l'.length = n2 at *
    go_enter Try.func37, Try.ntmps37
    go_wp2_with fail
    go_ret
    exact ⟨ret_bool HNE.out.symm, Below.refl _ _⟩

set_option maxHeartbeats 1000000 in
theorem same_rank (N : Nat) : SameOf N := by
  induction N with
  | zero => intro v u hv; obtain ⟨k, n, s, l⟩ := v; rw [rank_mk] at hv; omega
  | succ N ih =>
    intro v u hv w B B' p q cap c h h'
    obtain ⟨k, n, s, l⟩ := v
    obtain ⟨k', n', s', l'⟩ := u
    have hrl : ∀ x ∈ l, rank x ≤ N := fun x hx => by have := rank_lt k n s l x hx; omega
    have hl := h.list
    have hl' := h'.list
    change LAt w B l p cap at hl
    change LAt w B' l' q c at hl'
    have HB : Hid (∀ o o', Below w.heap.size w ((w.alloc o).alloc o')) := Lib.hid fun o o' => ((Below.refl w.heap.size w).alloc (Nat.le_refl _) o).alloc (by simp) o'
    have HC : Hid (∀ o o', Calls Try.prog 37 #[.slice p l.length cap, .slice q l'.length c, .func (.func 21) #[] #[]] ((w.alloc o).alloc o') fun e w' => e = .returned (.bool (smL l l')) ∧ Below w.heap.size w w') := Lib.hid fun o o' =>
      (equalF_any ih l l' hrl _ B B' p q cap c (VAt.bel hl (HB.out o o')) (VAt.bel hl' (HB.out o o'))).mono fun e w' h => ⟨h.1, (HB.out o o').trans (h.2.mono (HB.out o o').size)⟩
    clear h h' hl hl'
    show Calls Try.prog 21 #[.agg #[.int .i64 k, .int .i64 n, .string s, .slice p l.length cap], .agg #[.int .i64 k', .int .i64 n', .string s', .slice q l'.length c]] w _
    rw [sm_mk2]
    generalize smL l l' = f at *
    generalize l.length = n1 at *
    generalize l'.length = n2 at *
    go_enter Try.func21, Try.ntmps21
    go_wp2_with fail
    all_goals first
      | (go_at_call 37
         refine (HC.out _ _).mono ?_
         rintro e w' ⟨rfl, hb'⟩
         go_wp2_with fail
         go_ret
         exact ⟨ret_bool (by simp_all), hb'⟩)
      | (go_ret
         exact ⟨ret_bool (by simp_all), HB.out _ _⟩)
end Go.Proofs.Ytopkpdaingmmeaa
