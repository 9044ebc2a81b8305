/- Whether a value is well-formed, and how deep it is: the specification's way; depth; Check. -/
import Derived.Test.YtopkpdaingmmeaaVForm
namespace Go.Proofs.Ytopkpdaingmmeaa
open Go.RowKit

theorem depthL_take (l : List V) (k : Nat) (h : k < l.length) : depthL (l.take (k + 1)) = max (depthL (l.take k)) (depth l[k]) := by
  have key : ∀ (a : List V) (x : V), depthL (a ++ [x]) = max (depthL a) (depth x) := by
    intro a x
    induction a with
    | nil => simp only [List.nil_append, depthL]; omega
    | cons y a ih => simp only [List.cons_append, depthL, ih]; omega
  rw [List.take_succ_eq_append_getElem h, key]
theorem depth_rank : ∀ (N : Nat) (v : V), rank v ≤ N → depth v ≤ N := by
  intro N
  induction N with
  | zero => intro v hv; obtain ⟨k, n, s, l⟩ := v; rw [rank_mk] at hv; omega
  | succ N ih =>
    intro v hv
    obtain ⟨k, n, s, l⟩ := v
    rw [depth]
    split
    · have : depthL l ≤ N := (depthL_le l N).2 fun x hx => ih x (by have := rank_lt k n s l x hx; omega)
      omega
    · omega
theorem depthL_rank {N : Nat} (l : List V) (hl : ∀ x ∈ l, rank x ≤ N) (k : Nat) : depthL (l.take k) ≤ N :=
  (depthL_le _ _).2 fun x hx => depth_rank N x (hl x (List.mem_of_mem_take hx))

theorem refFormed_rank (N : Nat) : ∀ (v : V), rank v ≤ N → ∀ (w : World) (B : Nat) (p : Option Addr) (cap : Nat), VAt w B v p cap →
    Calls Try.prog 32 #[vV v p cap] w fun e w' => e = .returned (.bool (formed v)) ∧ Below w.heap.size w w' := by
  induction N with
  | zero => intro v hv; obtain ⟨k, n, s, l⟩ := v; rw [rank_mk] at hv; omega
  | succ N ih =>
    intro v hv w B p cap h
    obtain ⟨k, n, s, l⟩ := v
    have hrl : ∀ x ∈ l, rank x ≤ N := fun x hx => by have := rank_lt k n s l x hx; omega
    have hl := h.list
    have hlen := h.len
    change LAt w B l p cap at hl
    change l.length ≤ 2600000000000 at hlen
    show Calls Try.prog 32 #[.agg #[.int .i64 k, .int .i64 n, .string s, .slice p l.length cap]] w _
    rw [formed, formedL_all]
    have HB : Hid (∀ o, Below w.heap.size w (w.alloc o)) := Lib.hid fun o => (Below.refl w.heap.size w).alloc (Nat.le_refl _) o
    have HL := Lib.hid hl
    clear h hl
    rw [← str_empty, ← len_zero]
    by_cases h1 : k = 1
    · subst h1
      rw [if_pos rfl]
      go_enter Try.func32, Try.ntmps32
      go_wp2_with fail
      all_goals go_ret
      all_goals refine ⟨ret_bool ?_, HB.out _⟩
      all_goals simp_all
    by_cases h2 : k = 2
    · subst h2
      rw [if_neg (by decide), if_pos rfl]
      go_enter Try.func32, Try.ntmps32
      go_wp2_with fail
      all_goals go_ret
      all_goals refine ⟨ret_bool ?_, HB.out _⟩
      all_goals simp_all
    by_cases h3 : k = 3
    · subst h3
      rw [if_neg (by decide), if_neg (by decide), if_pos rfl]
      go_enter Try.func32, Try.ntmps32
      go_wp2_with fail
      go_loopw [3] (fun i wr => ∃ j : Nat, j ≤ l.length ∧ i = .int .i64 j ∧ Hid ((l.take j).all formed = true) ∧ Hid (Below w.heap.size w wr ∧ Box wr w.heap.size 3 n s (.slice p l.length cap))) (fun i _ => l.length - (intOf i).toNat)
      case atStart => exact ⟨0, Nat.zero_le _, rfl, Lib.hid rfl, Lib.hid ⟨HB.out _, Box.new w _ _ _ _⟩⟩
      case round =>
        obtain ⟨j, hj, rfl, HF, HB2⟩ := hrel
        obtain ⟨b0, c0, c1, c2, c3⟩ := HB2.out.2
        by_cases hlt : j < l.length
        · obtain ⟨b, off, q, c, rfl, hbs, e0, e1, e2, e3, hx⟩ := HL.out.elem HB2.out.1 j hlt
          have HM := Lib.hid (ih l[j] (hrl _ (List.getElem_mem hlt)) wr B q c hx)
          have HT := Lib.hid (formedL_take l j hlt)
          have HY := Lib.hid (formedL_no l j hlt)
          unfold vV at HM
          clear hx
          generalize l[j].l.length = n1 at *
          generalize l[j].k = x1 at *
          generalize l[j].n = x2 at *
          generalize l[j].s = x3 at *
          generalize formed l[j] = f at *
          go_wp2_with fail
          go_at_call 32
          refine HM.out.mono ?_
          rintro e w' ⟨rfl, hb'⟩
          have HB3 : Hid (Below w.heap.size w w' ∧ Box w' w.heap.size 3 n s (.slice (some ⟨b, off, none⟩) l.length cap)) := Lib.hid ⟨HB2.out.1.trans (hb'.mono HB2.out.1.size), HB2.out.2.bel hb' HB2.out.2.lt⟩
          clear hb' HM
          cases f with
          | true =>
            go_wp2
            go_round
            case rel => exact ⟨j + 1, by omega, by go_num, Lib.hid (by rw [HT.out, HF.out]; rfl), HB3⟩
            case measure => simp [intOf]; omega
          | false =>
            go_wp2
            go_ret
            exact ⟨ret_bool (by rw [HY.out trivial]; simp), HB3.out.1⟩
        · have hall : l.all formed = true := by
            have := HF.out
            rwa [List.take_of_length_le (by omega)] at this
          have HALL := Lib.hid hall; clear hall
          go_wp2_with fail
          all_goals go_ret
          all_goals refine ⟨ret_bool ?_, HB2.out.1⟩
          all_goals rw [HALL.out]
          all_goals simp_all
    · rw [if_neg h1, if_neg h2, if_neg h3]
      go_enter Try.func32, Try.ntmps32
      go_wp2_with fail
      go_ret
      exact ⟨rfl, HB.out _⟩

theorem depth_rank_any (N : Nat) (hN : N ≤ 1000000) : ∀ (v : V), rank v ≤ N → ∀ (w : World) (B : Nat) (p : Option Addr) (cap : Nat), VAt w B v p cap →
    Calls Try.prog 31 #[vV v p cap] w fun e w' => e = .returned (.int .i64 (depth v)) ∧ Below w.heap.size w w' := by
  induction N with
  | zero => intro v hv; obtain ⟨k, n, s, l⟩ := v; rw [rank_mk] at hv; omega
  | succ N ih =>
    intro v hv w B p cap h
    obtain ⟨k, n, s, l⟩ := v
    have hrl : ∀ x ∈ l, rank x ≤ N := fun x hx => by have := rank_lt k n s l x hx; omega
    have hl := h.list
    have hlen := h.len
    change LAt w B l p cap at hl
    change l.length ≤ 2600000000000 at hlen
    show Calls Try.prog 31 #[.agg #[.int .i64 k, .int .i64 n, .string s, .slice p l.length cap]] w _
    rw [depth]
    have HB : Hid (∀ o, Below w.heap.size w (w.alloc o)) := Lib.hid fun o => (Below.refl w.heap.size w).alloc (Nat.le_refl _) o
    have HL := Lib.hid hl
    clear h hl
    by_cases h1 : k = 3
    · subst h1
      rw [if_pos rfl]
      go_enter Try.func31, Try.ntmps31
      go_wp2_with fail
      go_loopw [3, 12] (fun d i wr => ∃ j m : Nat, j ≤ l.length ∧ i = .int .i64 j ∧ d = .int .i64 m ∧ m ≤ N ∧ Hid (m = depthL (l.take j)) ∧ Hid (Below w.heap.size w wr)) (fun _ i _ => l.length - (intOf i).toNat)
      case atStart => exact ⟨0, 0, Nat.zero_le _, rfl, rfl, Nat.zero_le _, Lib.hid rfl, Lib.hid (HB.out _)⟩
      case round =>
        obtain ⟨j, m, hj, rfl, rfl, hm, HF, HB2⟩ := hrel
        by_cases hlt : j < l.length
        · obtain ⟨b, off, q, c, rfl, hbs, e0, e1, e2, e3, hx⟩ := HL.out.elem HB2.out j hlt
          have HM : Hid (∀ o, Calls Try.prog 31 #[vV l[j] q c] (wr.alloc o) fun e w' => e = .returned (.int .i64 (depth l[j])) ∧ Below w.heap.size w w') := Lib.hid fun o =>
            (ih (by omega) l[j] (hrl _ (List.getElem_mem hlt)) (wr.alloc o) B q c (hx.bel ((Below.refl wr.heap.size wr).alloc (Nat.le_refl _) o))).mono fun e w' h => ⟨h.1, (HB2.out.alloc HB2.out.size o).trans (h.2.mono (HB2.out.alloc HB2.out.size o).size)⟩
          have HT := Lib.hid (depthL_take l j hlt)
          have hd := depth_rank N l[j] (hrl _ (List.getElem_mem hlt))
          unfold vV at HM
          clear hx
          generalize l[j].l.length = n1 at *
          generalize l[j].k = x1 at *
          generalize l[j].n = x2 at *
          generalize l[j].s = x3 at *
          generalize depth l[j] = f at *
          go_wp2_with fail
          go_at_call 31
          refine (HM.out _).mono ?_
          rintro e w' ⟨rfl, hb'⟩
          have HB3 := Lib.hid hb'
          clear hb' HM
          go_wp2
          go_round
          case rel => exact ⟨j + 1, max m f, by omega, by go_num, by simp <;> omega, by omega, Lib.hid (by rw [HT.out, HF.out]), HB3⟩
          case measure => simp [intOf]; omega
        · have hall : m = depthL l := by
            have := HF.out
            rwa [List.take_of_length_le (by omega)] at this
          have HALL := Lib.hid hall; clear hall
          go_wp2_with fail
          go_ret
          exact ⟨ret_int (by rw [← HALL.out]; omega), HB2.out⟩
    · rw [if_neg h1]
      go_enter Try.func31, Try.ntmps31
      go_wp2_with fail
      go_ret
      exact ⟨rfl, HB.out _⟩
end Go.Proofs.Ytopkpdaingmmeaa
