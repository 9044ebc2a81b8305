/- Depth in the specification's way; Check, both ways. -/
import Derived.Test.YtopkpdaingmmeaaVForm2
namespace Go.Proofs.Ytopkpdaingmmeaa
open Go.RowKit

theorem refDepth_rank (N : Nat) (hN : N ≤ 1000000) : ∀ (v : V), rank v ≤ N → ∀ (w : World) (B : Nat) (p : Option Addr) (cap : Nat), VAt w B v p cap →
    Calls Try.prog 33 #[vV v p cap] w fun e w' => e = .returned (.int .i64 (depth v)) ∧ Below w.heap.size w w' := by
  induction N with
  | zero => intro v hv; obtain ⟨k, n, s, l⟩ := v; rw [rank_mk] at hv; omega
  | succ N ih =>
    intro v hv w B p cap h
    obtain ⟨k, n, s, l⟩ := v
    have hrl : ∀ x ∈ l, rank x ≤ N := fun x hx => by have := rank_lt k n s l x hx; omega
    have hl := h.list
    have hlen := h.len
    change LAt w B l p cap at hl
    change l.length ≤ 2600000000000 at hlen
    show Calls Try.prog 33 #[.agg #[.int .i64 k, .int .i64 n, .string s, .slice p l.length cap]] w _
    rw [depth]
    have HB : Hid (∀ o, Below w.heap.size w (w.alloc o)) := Lib.hid fun o => (Below.refl w.heap.size w).alloc (Nat.le_refl _) o
    have HL := Lib.hid hl
    clear h hl
    by_cases h1 : k = 3
    · subst h1
      rw [if_pos rfl]
      go_enter Try.func33, Try.ntmps33
      go_wp2_with fail
      go_loopw [3, 4] (fun d i wr => ∃ j m : Nat, j ≤ l.length ∧ i = .int .i64 j ∧ d = .int .i64 m ∧ m ≤ N ∧ Hid (m = depthL (l.take j)) ∧ Hid (Below w.heap.size w wr ∧ Box wr w.heap.size 3 n s (.slice p l.length cap))) (fun _ i _ => l.length - (intOf i).toNat)
      case atStart => exact ⟨0, 0, Nat.zero_le _, rfl, rfl, Nat.zero_le _, Lib.hid rfl, Lib.hid ⟨HB.out _, Box.new w _ _ _ _⟩⟩
      case round =>
        obtain ⟨j, m, hj, rfl, rfl, hm, HF, HB2⟩ := hrel
        obtain ⟨b0, c0, c1, c2, c3⟩ := HB2.out.2
        by_cases hlt : j < l.length
        · obtain ⟨b, off, q, c, rfl, hbs, e0, e1, e2, e3, hx⟩ := HL.out.elem HB2.out.1 j hlt
          have HM := Lib.hid (ih (by omega) l[j] (hrl _ (List.getElem_mem hlt)) wr B q c hx)
          have HT := Lib.hid (depthL_take l j hlt)
          have hd := depth_rank N l[j] (hrl _ (List.getElem_mem hlt))
          unfold vV at HM
          clear hx
          generalize l[j].l.length = n1 at *
          generalize l[j].k = x1 at *
          generalize l[j].n = x2 at *
          generalize l[j].s = x3 at *
          generalize depth l[j] = f at *
          go_wp2_with fail
          go_at_call 33
          refine HM.out.mono ?_
          rintro e w' ⟨rfl, hb'⟩
          have HB3 : Hid (Below w.heap.size w w' ∧ Box w' w.heap.size 3 n s (.slice (some ⟨b, off, none⟩) l.length cap)) := Lib.hid ⟨HB2.out.1.trans (hb'.mono HB2.out.1.size), HB2.out.2.bel hb' HB2.out.2.lt⟩
          clear hb' HM
          go_wp2
          go_round
          case rel => exact ⟨j + 1, max m f, by omega, by go_num, by simp <;> omega, by omega, Lib.hid (by rw [HT.out, HF.out]), HB3⟩
          case measure => simp [intOf]; omega
        · have hall : m = depthL l := by
            have := HF.out
            rwa [List.take_of_length_le (by omega)] at this
          have HALL := Lib.hid hall; clear hall
          go_wp2_with fail
          go_ret
          exact ⟨ret_int (by rw [← HALL.out]; omega), HB2.out.1⟩
    · rw [if_neg h1]
      go_enter Try.func33, Try.ntmps33
      go_wp2_with fail
      go_ret
      exact ⟨rfl, HB.out _⟩

/-- What Check says of a value. -/
def errV (v : V) : Int := if formed v = true then (if depth v ≤ 16 then 0 else 2) else 1

theorem check_any (v : V) (hv : rank v ≤ 1000000) (w : World) (B : Nat) (p : Option Addr) (cap : Nat) (h : VAt w B v p cap) :
    Calls Try.prog 16 #[vV v p cap] w fun e w' => e = .returned (.int .i64 (errV v)) ∧ Below w.heap.size w w' := by
  have HB : Hid (∀ o, Below w.heap.size w (w.alloc o)) := Lib.hid fun o => (Below.refl w.heap.size w).alloc (Nat.le_refl _) o
  have HF : Hid (∀ o, Calls Try.prog 30 #[vV v p cap] (w.alloc o) fun e w' => e = .returned (.bool (formed v)) ∧ Below (w.alloc o).heap.size (w.alloc o) w') := Lib.hid fun o =>
    formed_rank _ v hv (w.alloc o) B p cap (h.bel (HB.out o))
  have HD : Hid (∀ wr, Below w.heap.size w wr → Calls Try.prog 31 #[vV v p cap] wr fun e w' => e = .returned (.int .i64 (depth v)) ∧ Below w.heap.size w w') := Lib.hid fun wr hb =>
    (depth_rank_any _ (Nat.le_refl _) v hv wr B p cap (h.bel hb)).mono fun e w' h => ⟨h.1, hb.trans (h.2.mono hb.size)⟩
  have hd := depth_rank _ v hv
  obtain ⟨k, n, s, l⟩ := v
  unfold vV at *
  change Calls Try.prog 16 #[.agg #[.int .i64 k, .int .i64 n, .string s, .slice p l.length cap]] w _
  change Hid (∀ o, Calls Try.prog 30 #[.agg #[.int .i64 k, .int .i64 n, .string s, .slice p l.length cap]] (w.alloc o) fun e w' => e = .returned (.bool (formed (.mk k n s l))) ∧ Below (w.alloc o).heap.size (w.alloc o) w') at HF
  change Hid (∀ wr, Below w.heap.size w wr → Calls Try.prog 31 #[.agg #[.int .i64 k, .int .i64 n, .string s, .slice p l.length cap]] wr fun e w' => e = .returned (.int .i64 (depth (.mk k n s l))) ∧ Below w.heap.size w w') at HD
  have HE : Hid (errV (.mk k n s l) = if formed (.mk k n s l) = true then (if depth (.mk k n s l) ≤ 16 then 0 else 2) else 1) := Lib.hid rfl
  clear h
  generalize errV (.mk k n s l) = E at *
  generalize depth (.mk k n s l) = d at *
  generalize formed (.mk k n s l) = f at *
  generalize l.length = len at *
  go_enter Try.func16, Try.ntmps16
  go_wp2_with fail
  go_at_call 30
  refine (HF.out _).mono ?_
  rintro e w' ⟨rfl, hb'⟩
  obtain ⟨b0, c0, c1, c2, c3⟩ := (Box.new w k n s (.slice p len cap)).bel hb' (by simp)
  have HB2 := Lib.hid ((HB.out _).trans (hb'.mono (HB.out _).size))
  clear hb' HF
  cases f with
  | false =>
    go_wp2_with fail
    go_ret
    exact ⟨ret_int (by rw [HE.out]; rfl), HB2.out⟩
  | true =>
    go_wp2_with fail
    go_at_call 31
    refine (HD.out _ HB2.out).mono ?_
    rintro e w2 ⟨rfl, hb2⟩
    have HB3 := Lib.hid hb2
    clear hb2 HD
    by_cases h1 : d ≤ 16
    · have HE2 : Hid (E = 0) := Lib.hid (by rw [HE.out, if_pos trivial, if_pos h1])
      go_wp2_with fail
      go_ret
      exact ⟨ret_int HE2.out.symm, HB3.out⟩
    · have HE2 : Hid (E = 2) := Lib.hid (by rw [HE.out, if_pos trivial, if_neg h1])
      go_wp2_with fail
      go_ret
      exact ⟨ret_int HE2.out.symm, HB3.out⟩

theorem refCheck_any (v : V) (hv : rank v ≤ 1000000) (w : World) (B : Nat) (p : Option Addr) (cap : Nat) (h : VAt w B v p cap) :
    Calls Try.prog 17 #[vV v p cap] w fun e w' => e = .returned (.int .i64 (errV v)) ∧ Below w.heap.size w w' := by
  have HB : Hid (∀ o, Below w.heap.size w (w.alloc o)) := Lib.hid fun o => (Below.refl w.heap.size w).alloc (Nat.le_refl _) o
  have HF : Hid (∀ o, Calls Try.prog 32 #[vV v p cap] (w.alloc o) fun e w' => e = .returned (.bool (formed v)) ∧ Below (w.alloc o).heap.size (w.alloc o) w') := Lib.hid fun o =>
    refFormed_rank _ v hv (w.alloc o) B p cap (h.bel (HB.out o))
  have HD : Hid (∀ wr, Below w.heap.size w wr → Calls Try.prog 33 #[vV v p cap] wr fun e w' => e = .returned (.int .i64 (depth v)) ∧ Below w.heap.size w w') := Lib.hid fun wr hb =>
    (refDepth_rank _ (Nat.le_refl _) v hv wr B p cap (h.bel hb)).mono fun e w' h => ⟨h.1, hb.trans (h.2.mono hb.size)⟩
  have hd := depth_rank _ v hv
  obtain ⟨k, n, s, l⟩ := v
  unfold vV at *
  change Calls Try.prog 17 #[.agg #[.int .i64 k, .int .i64 n, .string s, .slice p l.length cap]] w _
  change Hid (∀ o, Calls Try.prog 32 #[.agg #[.int .i64 k, .int .i64 n, .string s, .slice p l.length cap]] (w.alloc o) fun e w' => e = .returned (.bool (formed (.mk k n s l))) ∧ Below (w.alloc o).heap.size (w.alloc o) w') at HF
  change Hid (∀ wr, Below w.heap.size w wr → Calls Try.prog 33 #[.agg #[.int .i64 k, .int .i64 n, .string s, .slice p l.length cap]] wr fun e w' => e = .returned (.int .i64 (depth (.mk k n s l))) ∧ Below w.heap.size w w') at HD
  have HE : Hid (errV (.mk k n s l) = if formed (.mk k n s l) = true then (if depth (.mk k n s l) ≤ 16 then 0 else 2) else 1) := Lib.hid rfl
  clear h
  generalize errV (.mk k n s l) = E at *
  generalize depth (.mk k n s l) = d at *
  generalize formed (.mk k n s l) = f at *
  generalize l.length = len at *
  go_enter Try.func17, Try.ntmps17
  go_wp2_with fail
  go_at_call 32
  refine (HF.out _).mono ?_
  rintro e w' ⟨rfl, hb'⟩
  obtain ⟨b0, c0, c1, c2, c3⟩ := (Box.new w k n s (.slice p len cap)).bel hb' (by simp)
  have HB2 := Lib.hid ((HB.out _).trans (hb'.mono (HB.out _).size))
  clear hb' HF
  cases f with
  | false =>
    go_wp2_with fail
    go_ret
    exact ⟨ret_int (by rw [HE.out]; rfl), HB2.out⟩
  | true =>
    go_wp2_with fail
    go_at_call 33
    refine (HD.out _ HB2.out).mono ?_
    rintro e w2 ⟨rfl, hb2⟩
    have HB3 := Lib.hid hb2
    clear hb2 HD
    by_cases h1 : d ≤ 16
    · have HE2 : Hid (E = 0) := Lib.hid (by rw [HE.out, if_pos trivial, if_pos h1])
      go_wp2_with fail
      go_ret
      exact ⟨ret_int HE2.out.symm, HB3.out⟩
    · have HE2 : Hid (E = 2) := Lib.hid (by rw [HE.out, if_pos trivial, if_neg h1])
      go_wp2_with fail
      go_ret
      exact ⟨ret_int HE2.out.symm, HB3.out⟩
end Go.Proofs.Ytopkpdaingmmeaa
