/- The specification's Encode and Size. -/
import Derived.Test.YtopkpdaingmmeaaVRefEnc
import Derived.Test.YtopkpdaingmmeaaVEncode
namespace Go.Proofs.Ytopkpdaingmmeaa
open Go.RowKit

theorem Row.reads {w : World} {lo : Nat} {v : Value} {bs : List UInt8} (h : Row w lo v bs) (hl : bs.length ≤ 140737488351232) :
    ∃ q m c, v = .slice q m c ∧ BAt w lo q bs ∧ m = bs.length := by
  rcases h.2 with ⟨rfl, hn⟩ | ⟨g, cap, cur, rfl, hB, hg, hc, hm, hs, ht⟩
  · obtain rfl : bs = [] := List.length_eq_zero_iff.1 hn
    exact ⟨none, 0, 0, rfl, BAt.nil, rfl⟩
  · refine ⟨_, _, cap, rfl, ⟨hl, fun _ => ⟨g, 0, rfl, hB, (Array.getElem?_eq_some_iff.1 hg).1, fun i hi => ?_⟩⟩, rfl⟩
    rw [cell_of_row w g _ cur _ (0, 0) hg, Nat.zero_add]
    have hfl : (bs.map bv)[i]? = some (.int .u8 bs[i].toNat) := by rw [List.getElem?_map, List.getElem?_eq_getElem hi]; rfl
    rw [← ht, List.getElem?_take] at hfl
    split at hfl
    · simpa using hfl
    · cases hfl

/-- What Encode returns: the bytes, and the error. -/
def RefOut (lo : Nat) (w' : World) (e : Ending) (er : Int) (en : List UInt8) : Prop := ∃ q m c, e = .returned (.tuple #[.slice q m c, .int .i64 er]) ∧ BAt w' lo q en ∧ m = en.length
theorem RefOut.of {lo : Nat} {w' : World} {e : Ending} {er : Int} {en : List UInt8} (q : Option Addr) (m c : Nat) (h : e = .returned (.tuple #[.slice q m c, .int .i64 er])) (hq : BAt w' lo q en) (hm : m = en.length) : RefOut lo w' e er en := ⟨q, m, c, h, hq, hm⟩

set_option maxHeartbeats 1000000 in
theorem refEncode_any (v : V) (hv : rank v ≤ 1000000) (hlen : (enc v).length ≤ 1000000000000) (w : World) (B : Nat) (p : Option Addr) (cap : Nat) (h : VAt w B v p cap) :
    Calls Try.prog 13 #[vV v p cap] w fun e w' => Below w.heap.size w w' ∧ RefOut w.heap.size w' e (errV v) (if errV v = 0 then enc v else []) := by
  have HB : Hid (∀ o, Below w.heap.size w (w.alloc o)) := Lib.hid fun o => (Below.refl w.heap.size w).alloc (Nat.le_refl _) o
  have HF : Hid (∀ wr, Below w.heap.size w wr → Calls Try.prog 17 #[vV v p cap] wr fun e w' => e = .returned (.int .i64 (errV v)) ∧ Below wr.heap.size wr w') := Lib.hid fun wr hb =>
    refCheck_any v hv wr B p cap (h.bel hb)
  have HE : Hid (∀ wr, Below w.heap.size w wr → Calls Try.prog 29 #[vV v p cap] wr fun e w' => Below wr.heap.size wr w' ∧ ∃ q m c, e = .returned (.slice q m c) ∧ BAt w' wr.heap.size q (enc v) ∧ m = (enc v).length) := Lib.hid fun wr hb =>
    (refEncode_rank _ v hv hlen wr B p cap (h.bel hb)).mono fun e w' ⟨r, h1, h2, h3⟩ => by
      obtain ⟨q, m, c, rfl, hq, hm⟩ := h2.reads (by omega)
      exact ⟨h3, q, m, c, h1, hq, hm⟩
  obtain ⟨k, n, s, l⟩ := v
  unfold vV at *
  change Calls Try.prog 13 #[.agg #[.int .i64 k, .int .i64 n, .string s, .slice p l.length cap]] w _
  change Hid (∀ wr, Below w.heap.size w wr → Calls Try.prog 17 #[.agg #[.int .i64 k, .int .i64 n, .string s, .slice p l.length cap]] wr fun e w' => e = .returned (.int .i64 (errV (.mk k n s l))) ∧ Below wr.heap.size wr w') at HF
  change Hid (∀ wr, Below w.heap.size w wr → Calls Try.prog 29 #[.agg #[.int .i64 k, .int .i64 n, .string s, .slice p l.length cap]] wr fun e w' => Below wr.heap.size wr w' ∧ ∃ q m c, e = .returned (.slice q m c) ∧ BAt w' wr.heap.size q (enc (.mk k n s l)) ∧ m = (enc (.mk k n s l)).length) at HE
  clear h
  generalize enc (.mk k n s l) = en at *
  generalize errV (.mk k n s l) = er at *
  generalize l.length = len at *
  go_enter Try.func13, Try.ntmps13
  go_wp2_with fail
  go_at_call 17
  refine (HF.out _ (HB.out _)).mono ?_
  rintro e w1 ⟨rfl, hb'⟩
  obtain ⟨b0, c0, c1, c2, c3⟩ := (Box.new w k n s (.slice p len cap)).bel hb' (by simp)
  have HB2 := Lib.hid ((HB.out _).trans (hb'.mono (HB.out _).size))
  clear hb' HF
  by_cases h0 : er = 0
  · subst h0
    go_wp2_with fail
    go_at_call 29
    refine (HE.out _ HB2.out).mono ?_
    rintro e w2 ⟨hb2, q, m, c, rfl, hq, hm⟩
    have HB3 := Lib.hid (HB2.out.trans (hb2.mono HB2.out.size))
    have HQ := Lib.hid (And.intro (hq.mono HB2.out.size) hm)
    clear hb2 HE hq hm
    go_wp2_with fail
    go_ret2
    refine ⟨HB3.out, RefOut.of q m c (pair_ret rfl rfl) ?_ ?_⟩
    · exact HQ.out.1
    · exact HQ.out.2
  · go_wp2_with fail
    go_ret2
    refine ⟨HB2.out, RefOut.of none 0 0 (pair_ret rfl rfl) ?_ ?_⟩
    · first | exact BAt.nil | (rw [if_neg h0]; exact BAt.nil)
    · first | rfl | (rw [if_neg h0]; rfl)

set_option maxHeartbeats 1000000 in
theorem refSize_any (v : V) (hv : rank v ≤ 1000000) (hlen : (enc v).length ≤ 1000000000000) (w : World) (B : Nat) (p : Option Addr) (cap : Nat) (h : VAt w B v p cap) :
    Calls Try.prog 15 #[vV v p cap] w fun e w' => e = .returned (.tuple #[.int .i64 (if errV v = 0 then (enc v).length else 0), .int .i64 (errV v)]) ∧ Below w.heap.size w w' := by
  have HB : Hid (∀ o, Below w.heap.size w (w.alloc o)) := Lib.hid fun o => (Below.refl w.heap.size w).alloc (Nat.le_refl _) o
  have HE : Hid (∀ o, Calls Try.prog 13 #[vV v p cap] (w.alloc o) fun e w' => Below (w.alloc o).heap.size (w.alloc o) w' ∧ RefOut (w.alloc o).heap.size w' e (errV v) (if errV v = 0 then enc v else [])) := Lib.hid fun o => refEncode_any v hv hlen (w.alloc o) B p cap (h.bel (HB.out o))
  have HM : Hid (((if errV v = 0 then enc v else []).length : Int) = (if errV v = 0 then ((enc v).length : Int) else 0)) := Lib.hid (by split <;> rfl)
  unfold vV at *
  clear h
  generalize (if errV v = 0 then enc v else []) = en at *
  generalize (if errV v = 0 then ((enc v).length : Int) else 0) = sz at *
  generalize errV v = er at *
  generalize v.l.length = len at *
  generalize v.k = k at *
  generalize v.n = n at *
  generalize v.s = s at *
  go_enter Try.func15, Try.ntmps15
  go_wp2_with fail
  go_at_call 13
  refine (HE.out _).mono ?_
  rintro e w1 ⟨hb, q, m, c, rfl, hq, hm⟩
  have HB2 := Lib.hid ((HB.out _).trans (hb.mono (HB.out _).size))
  have HMM : Hid ((m : Int) = sz) := Lib.hid (by rw [hm]; exact HM.out)
  clear hb hq hm HE HM
  go_wp2_with fail
  go_ret2
  exact ⟨pair_ret (by rw [HMM.out]; rfl) rfl, HB2.out⟩
end Go.Proofs.Ytopkpdaingmmeaa
