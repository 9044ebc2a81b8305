/- slices.SortedFunc over slices.Values. -/
import Derived.Test.YtdennlekjndfkaaCollect
import Derived.Test.YtdennlekjndfkaaCmp
import Derived.Test.YtdennlekjndfkaaShelf
namespace Go.Proofs.Ytdennlekjndfkaa
open Go.RowKit Go.Sort Go.Lib

def encSp (x : Sp) : List Value := [.int .i64 x.1, .int .i64 x.2]
def ltSp (x y : Sp) : Bool := decide (x.1 < y.1 ∨ x.1 = y.1 ∧ x.2 < y.2)
theorem ltOf_cmpSp (x y : Sp) : ltOf cmpSp x y = ltSp x y := by
  unfold ltOf ltSp cmpSp orI cmpI
  by_cases h1 : x.1 < y.1
  · simp [h1]
  · by_cases h2 : y.1 < x.1
    · simp [h1, h2]; omega
    · have h3 : x.1 = y.1 := by omega
      by_cases h4 : x.2 < y.2
      · simp [h3, h4]
      · by_cases h5 : y.2 < x.2 <;> simp [h3, h4, h5]
theorem ltOf_fun : ltOf cmpSp = ltSp := by funext x y; exact ltOf_cmpSp x y
theorem swoSp : SWO (ltOf cmpSp) where
  irrefl x := by rw [ltOf_cmpSp]; simp [ltSp]
  trans x y z h1 h2 := by rw [ltOf_cmpSp] at *; simp [ltSp] at *; omega
  ntrans x y z h1 h2 := by rw [ltOf_cmpSp] at *; simp [ltSp] at *; omega
theorem totSp (x y : Sp) (h1 : ltOf cmpSp x y = false) (h2 : ltOf cmpSp y x = false) : x = y := by
  rw [ltOf_cmpSp] at *; simp [ltSp] at *
  obtain ⟨a, b⟩ := x
  obtain ⟨c, d⟩ := y
  simp at *
  omega

def sortS (l : List Sp) : List Sp := l.mergeSort fun x y => !ltSp y x
theorem sortS_perm (l : List Sp) : (sortS l).Perm l := List.mergeSort_perm _ _
theorem sortS_len (l : List Sp) : (sortS l).length = l.length := (sortS_perm l).length_eq

/-- The value p (a slice's address) holds l in cells that may be written, in a block from B on. -/
structure Mut (w : World) (B : Nat) (p : Option Addr) (l : List Sp) : Prop where
  fit : ∀ s ∈ l, FitSp s
  len : l.length ≤ 8796093022207
  at' : l ≠ [] → ∃ b off, p = some ⟨b, off, none⟩ ∧ B ≤ b ∧ b < w.heap.size ∧ HoldsK encSp 2 w b off l.toArray

theorem flatK_get (l : List Sp) (i : Nat) (h : i < l.length) : (flatK encSp 2 l.toArray)[i * 2]! = .int .i64 l[i].1 ∧ (flatK encSp 2 l.toArray)[i * 2 + 1]! = .int .i64 l[i].2 := by
  constructor
  · rw [get_flatK _ _ _ _ (by simp; omega)]
    simp [show i * 2 / 2 = i by omega, encSp, h]
  · rw [get_flatK _ _ _ _ (by simp; omega)]
    simp [show (i * 2 + 1) / 2 = i by omega, show (i * 2 + 1) % 2 = 1 by omega, encSp, h]

theorem Mut.reads {w : World} {B : Nat} {p : Option Addr} {l : List Sp} (h : Mut w B p l) : SpAt w B p l := by
  refine ⟨h.fit, h.len, fun hne => ?_⟩
  obtain ⟨b, off, h1, h2, h3, h4⟩ := h.at' hne
  refine ⟨b, off, h1, h2, h3, fun i hi => ?_⟩
  have hf := flatK_get l i hi
  have h5 := (h4 (i * 2) (by simp; omega)).1
  have h6 := (h4 (i * 2 + 1) (by simp; omega)).1
  rw [hf.1] at h5
  rw [hf.2] at h6
  exact ⟨h5, h6⟩

theorem Own.mut {w : World} {B : Nat} {v : Value} {l : List Sp} (h : Own w B v l) (hf : ∀ s ∈ l, FitSp s) (hl : l.length ≤ 8796093022207) :
    ∃ p cap, v = .slice p l.length cap ∧ Mut w B p l ∧ (p = none → cap = 0) ∧ l.length ≤ cap ∧ cap ≤ 9223372036854775807 := by
  obtain ⟨p, cap, hv, hsp, hfr, hn, hc1, hc2⟩ := h.reads hf hl
  refine ⟨p, cap, hv, ⟨hf, hl, fun hne => ?_⟩, hn, hc1, hc2⟩
  obtain ⟨b, off, h1, h2, h3, h4⟩ := hsp.at' hne
  refine ⟨b, off, h1, h2, h3, fun j hj => ?_⟩
  have hj' : j < l.length * 2 := by simpa using hj
  have hi : j / 2 < l.length := by omega
  have hff := flatK_get l (j / 2) hi
  refine ⟨?_, (hfr _ h1).2 _⟩
  rcases Nat.mod_two_eq_zero_or_one j with hm | hm
  · have e := (h4 (j / 2) hi).1
    rw [← hff.1, show j / 2 * 2 = j by omega] at e
    exact e
  · have e := (h4 (j / 2) hi).2
    rw [← hff.2, Nat.add_assoc, show j / 2 * 2 + 1 = j by omega] at e
    exact e

theorem cmpLays (blk off size : Nat) (w : World) : CmpLays Try.prog 50 #[] encSp 2 cmpSp blk off size w := fun _ _ _ _ x y => compare_any x y _

theorem sortWorld_below (B : Nat) (w : World) (blk off n : Nat) (d : Array Sp) (os : Array Obj) (hB : B ≤ blk) (hblk : blk < w.heap.size) : Below B w (sortWorldK encSp 2 w blk off n d os) := by
  unfold sortWorldK putRowK putRow
  refine ⟨rfl, rfl, rfl, by simp [mapBlock], fun k hk => ?_⟩
  rw [heap_grow_old _ _ (by simp [mapBlock]; omega)]
  simp only [mapBlock, Array.getElem?_modify]
  rw [if_neg (by omega)]
  rfl

set_option maxHeartbeats 1000000 in
theorem sortFunc_any (p : Option Addr) (cap : Nat) (l : List Sp) (w : World) (B : Nat) (h : Mut w B p l) :
    Calls Try.prog 57 #[.slice p l.length cap, .func (.func 50) #[] #[]] w fun e w' => e = .returned (.tuple #[]) ∧ Mut w' B p (sortS l) ∧ Below B w w' := by
  by_cases hne : l = []
  · subst hne
    have hc := AnyF.slices_SortFunc_none Try.sortSp p cap (.func (.func 50) #[] #[]) w
    change Calls Try.prog 57 _ _ _ at hc
    refine hc.mono ?_
    rintro e w' ⟨rfl, rfl⟩
    exact ⟨rfl, ⟨by simp [sortS], by simp [sortS], fun h => absurd (by simp [sortS]) h⟩, Below.refl _ _⟩
  · obtain ⟨b, off, rfl, h2, h3, h4⟩ := h.at' hne
    have eg : ∀ args w, (callFunc 50 args).run Try.prog w = .ok (.enter 50 args) w := enters_of Try.func50 (by kernel_rfl) rfl
    have hc := AnyQ.slices_SortFunc_total Try.sortSp 2 Try.isAgg23 Try.sizeOf23 encSp (fun _ => rfl) (fun x v hv => by simp [encSp] at hv; rcases hv with rfl | rfl <;> rfl) cmpSp swoSp 50 #[] b off cap l.toArray w eg (cmpLays b off _ w) h4 h3 (by have := h.len; simp; omega) totSp
    change Calls Try.prog 57 _ _ _ at hc
    rw [List.size_toArray] at hc
    refine hc.mono ?_
    rintro e w' ⟨rfl, n, os, rfl⟩
    have hS : (l.toArray.toList.mergeSort fun x y => !(ltOf cmpSp) y x) = sortS l := by rw [ltOf_fun]; rfl
    rw [hS]
    refine ⟨rfl, ⟨fun s hs => h.fit s ((sortS_perm l).mem_iff.1 hs), by rw [sortS_len]; exact h.len, fun _ => ⟨b, off, rfl, h2, lt_sortWorldK _ _ _ _ _ _ _ _ h3, holdsK_sortWorldK _ _ _ _ _ _ l.toArray _ _ h3 h4 (by simp [sortS_len])⟩⟩, sortWorld_below B w b off n _ os h2 h3⟩

theorem values_stops (n : Nat) (hn : 1 ≤ n) (Bs Bl : Nat) (p : Option Addr) (cap : Nat) (zs : List Sp) (w : World) (hBs : Bs < w.heap.size) (hc : w.cell? ⟨Bs, 0, none⟩ = some (.slice p zs.length cap)) (hz : Rd Bl w p zs) :
    SeqStopsK Fence.wide n Try.prog 58 #[.pointer (some ⟨Bs, 0, none⟩)] enc1 (Kp Bl) (fun ys => ys = zs) (fun _ => True) zs.length w := by
  intro l J Jx W hW hJ hJx hY h0
  refine (values1_in n hn l Bs Bl p cap zs J Jx W hJ hY ((hW.cell (p := ⟨Bs, 0, none⟩) hBs).trans hc) (hz.below hW) h0).mono ?_
  rintro e W' ⟨he, ⟨ys, h1, h2⟩ | ⟨pre, h1, h2⟩⟩
  · exact ⟨he, .inl ⟨ys, h1, h2⟩⟩
  · exact ⟨he, .inr ⟨pre, trivial, h2⟩⟩

/-- A slice that came in can be read in a loop whose collecting box is laid next. -/
theorem Rd.start {w : World} {B : Nat} {p : Option Addr} {zs : List Sp} (h : SpAt w B p zs) (t : TypeId) : Rd w.heap.size (w.alloc (.cells #[.slice none 0 0] t)) p zs := by
  have hb : Below w.heap.size w (w.alloc (.cells #[.slice none 0 0] t)) := (Below.refl _ _).alloc (Nat.le_refl _) _
  refine ⟨(h.mono (Nat.zero_le _)).below hb, fun hne a ha => ?_, by simp⟩
  obtain ⟨b, off, h1, _, h3, _⟩ := h.at' hne
  rw [h1] at ha
  obtain rfl := Option.some.inj ha
  refine ⟨by simp; omega, by show b ≠ _; omega, ?_⟩
  have : rb w.heap.size (w.alloc (.cells #[.slice none 0 0] t)) = w.heap.size := by unfold rb; simp
  rw [this]; show b ≠ _; omega

set_option maxHeartbeats 1000000 in
theorem collectV_any (Bs : Nat) (p : Option Addr) (cap : Nat) (zs : List Sp) (w : World) (B : Nat) (hBs : Bs < w.heap.size) (hc : w.cell? ⟨Bs, 0, none⟩ = some (.slice p zs.length cap)) (hz : SpAt w B p zs) (hl : zs.length ≤ 1000000) :
    Calls Try.prog 56 #[.func (.func 58) #[] #[.pointer (some ⟨Bs, 0, none⟩)]] w fun e w' => ∃ v, e = .returned v ∧ Own w' w.heap.size v zs ∧ Below w.heap.size w w' := by
  have hA := callsIn_wide.1 (appendSeq_in 9 (by omega) 58 #[.pointer (some ⟨Bs, 0, none⟩)] (enters_of Try.func58 (by kernel_rfl) rfl) zs hl w
    (values_stops 8 (by omega) Bs w.heap.size p cap zs _ (by simp; omega) ((((Below.refl w.heap.size w).alloc (Nat.le_refl _) _).cell (p := ⟨Bs, 0, none⟩) hBs).trans hc) (Rd.start hz _)))
  have HA := Lib.hid hA
  clear hA hc hz
  go_enter Try.func56, Try.ntmps56
  go_wp2_with (go_at_call 61; refine HA.out.mono ?_; rintro e w' ⟨v, rfl, hown, hb⟩)
  go_ret
  exact ⟨v, rfl, hown, hb⟩

set_option maxHeartbeats 1000000 in
theorem sorted_any (Bs : Nat) (p : Option Addr) (cap : Nat) (zs : List Sp) (w : World) (B : Nat) (hBs : Bs < w.heap.size) (hc : w.cell? ⟨Bs, 0, none⟩ = some (.slice p zs.length cap)) (hz : SpAt w B p zs) (hl : zs.length ≤ 1000000) :
    Calls Try.prog 48 #[.func (.func 58) #[] #[.pointer (some ⟨Bs, 0, none⟩)], .func (.func 50) #[] #[]] w fun e w' => ∃ p' cap', e = .returned (.slice p' zs.length cap') ∧ Mut w' w.heap.size p' (sortS zs) ∧ (zs.length ≤ cap' ∧ cap' ≤ 9223372036854775807) ∧ Below w.heap.size w w' := by
  have HA := Lib.hid (collectV_any Bs p cap zs w B hBs hc hz hl)
  have hfit := hz.fit
  have HF := Lib.hid hfit
  clear hc hz hfit
  go_enter Try.func48, Try.ntmps48
  go_wp2_with fail
  refine HA.out.mono ?_
  rintro e w1 ⟨v, rfl, hown, hb⟩
  obtain ⟨q, qc, rfl, hm, _, hqc⟩ := hown.mut HF.out (by omega)
  have HB := Lib.hid hb
  have HM := Lib.hid hm
  clear hb hown hm
  go_wp2_with fail
  refine (sortFunc_any q qc zs w1 _ HM.out).mono ?_
  rintro e w2 ⟨rfl, hm2, hb2⟩
  have HB2 := Lib.hid hb2
  have HM2 := Lib.hid hm2
  clear hb2 hm2
  go_wp2_with fail
  go_ret
  exact ⟨q, qc, rfl, HM2.out, hqc, HB.out.trans HB2.out⟩
end Go.Proofs.Ytdennlekjndfkaa
