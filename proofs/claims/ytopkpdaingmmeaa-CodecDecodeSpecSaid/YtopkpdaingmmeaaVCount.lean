/- The count that follows, and values in memory whose blocks are known. -/
import Derived.Test.YtopkpdaingmmeaaVRead
namespace Go.Proofs.Ytopkpdaingmmeaa
open Go.RowKit

/-- A number of bytes or of values that follow. -/
def rdCount (bs : List UInt8) : Option (Nat × List UInt8) := match rdNum 0 0 bs with
  | none => none
  | some (u, r) => if r.length < u then none else some (u, r)

def CountPost (w : World) (lo ib : Nat) (o : Option (Nat × List UInt8)) (e : Ending) (w' : World) : Prop :=
  Kept w w' ib none ∧ match o with
    | none => e = .panicked noCode
    | some (u, r) => e = .returned (.int .i64 u) ∧ u ≤ r.length ∧ Inp w' lo ib r

theorem count_any (w : World) (lo ib : Nat) (bs : List UInt8) (h : Inp w lo ib bs) :
    Calls Try.prog 51 #[.pointer (some ⟨ib, 0, none⟩)] w (CountPost w lo ib (rdCount bs)) := by
  have HC := Lib.hid (rdNum_any w lo ib bs h)
  have hlt := h.lt
  have HE : Hid (rdCount bs = match rdNum 0 0 bs with | none => none | some (u, r) => if r.length < u then none else some (u, r)) := Lib.hid rfl
  clear h
  generalize rdCount bs = R at *
  generalize rdNum 0 0 bs = o at *
  go_enter Try.func51, Try.ntmps51
  go_wp2_with fail
  go_at_call 50
  refine HC.out.mono ?_
  rintro e w' ⟨hk, he⟩
  have HK := Lib.hid hk
  clear hk HC
  cases o with
  | none =>
    change e = .panicked noCode at he
    subst he
    unfold noCode
    go_wp2_with fail
    refine ⟨rfl, HK.out, ?_⟩
    rw [HE.out]
    rfl
  | some ur =>
    obtain ⟨u, r⟩ := ur
    obtain ⟨rfl, hu, hi⟩ := he
    have HI := Lib.hid hi
    obtain ⟨p, hc, _⟩ := hi.cell
    have hrl := hi.len
    have hlt2 := hi.lt
    clear hi
    have HE2 : Hid (R = if r.length < u then none else some (u, r)) := Lib.hid HE.out
    clear HE
    generalize hL : r.length = len at *
    have HL := Lib.hid hL; clear hL
    by_cases hul : len < u
    · go_wp2_with fail
      refine ⟨rfl, HK.out, ?_⟩
      rw [HE2.out, if_pos hul]
      rfl
    · go_wp2_with fail
      go_ret
      refine ⟨HK.out, ?_⟩
      rw [HE2.out, if_neg hul]
      exact ⟨rfl, by have := HL.out; omega, HI.out⟩

/-- The value v, whose list is at p with room cap, lies in blocks of which ok says yes. -/
inductive VIn (w : World) (ok : Nat → Prop) : V → Option Addr → Nat → Prop
  | mk (k n : Int) (s : ByteArray) (l : List V) (p : Option Addr) (cap b off : Nat) (P : Nat → Option Addr) (C : Nat → Nat)
      (hk : Fit64 k) (hn : Fit64 n) (hs : s.size ≤ 140737488351232) (hl : l.length ≤ 2600000000000) (hc : l.length ≤ cap) (hc2 : cap ≤ 9223372036854775807) (hp : p = none → cap = 0)
      (hb : l ≠ [] → p = some ⟨b, off, none⟩ ∧ ok b ∧ b < w.heap.size)
      (hcell : ∀ i (h : i < l.length), w.cell? ⟨b, off + i * 4, none⟩ = some (.int .i64 l[i].k) ∧ w.cell? ⟨b, off + i * 4 + 1, none⟩ = some (.int .i64 l[i].n) ∧
        w.cell? ⟨b, off + i * 4 + 2, none⟩ = some (.string l[i].s) ∧ w.cell? ⟨b, off + i * 4 + 3, none⟩ = some (.slice (P i) l[i].l.length (C i)))
      (hsub : ∀ i (h : i < l.length), VIn w ok l[i] (P i) (C i)) : VIn w ok (.mk k n s l) p cap

theorem VIn.at {w : World} {ok : Nat → Prop} {B : Nat} {v : V} {p : Option Addr} {cap : Nat} (h : VIn w ok v p cap) (hB : ∀ b, ok b → B ≤ b) : VAt w B v p cap := by
  induction h with
  | mk k n s l p cap b off P C hk hn hs hl hc hc2 hp hbb hcell hsub ih =>
    exact .mk k n s l p cap b off P C hk hn hs hl hc hc2 hp (fun hne => ⟨(hbb hne).1, hB _ (hbb hne).2.1, (hbb hne).2.2⟩) hcell ih
/-- Where its blocks stand as they were, the value stands. -/
theorem VIn.keep {w w' : World} {ok ok' : Nat → Prop} {v : V} {p : Option Addr} {cap : Nat} (h : VIn w ok v p cap) (hsz : w.heap.size ≤ w'.heap.size) (hb : ∀ b, ok b → b < w.heap.size → ok' b ∧ w'.heap[b]? = w.heap[b]?) : VIn w' ok' v p cap := by
  induction h with
  | mk k n s l p cap b off P C hk hn hs hl hc hc2 hp hbb hcell hsub ih =>
    refine .mk k n s l p cap b off P C hk hn hs hl hc hc2 hp (fun hne => ⟨(hbb hne).1, (hb _ (hbb hne).2.1 (hbb hne).2.2).1, Nat.lt_of_lt_of_le (hbb hne).2.2 hsz⟩) (fun i hi => ?_) ih
    obtain ⟨_, h2, h3⟩ := hbb (by rintro rfl; simp at hi)
    have hcc := fun o => World.cell?_of_block (a := ⟨b, o, none⟩) (hb b h2 h3).2
    obtain ⟨c1, c2, c3, c4⟩ := hcell i hi
    exact ⟨(hcc _).trans c1, (hcc _).trans c2, (hcc _).trans c3, (hcc _).trans c4⟩
theorem VIn.leaf {w : World} {ok : Nat → Prop} {k n : Int} {s : ByteArray} (hk : Fit64 k) (hn : Fit64 n) (hs : s.size ≤ 140737488351232) : VIn w ok (.mk k n s []) none 0 :=
  .mk k n s [] none 0 0 0 (fun _ => none) (fun _ => 0) hk hn hs (by simp) (by simp) (by decide) (fun _ => rfl) (fun h => absurd rfl h) (fun i h => by simp at h) (fun i h => by simp at h)
theorem VIn.fits {w : World} {ok : Nat → Prop} {v : V} {p : Option Addr} {cap : Nat} (h : VIn w ok v p cap) : Fit64 v.k ∧ Fit64 v.n ∧ v.s.size ≤ 140737488351232 ∧ v.l.length ≤ 2600000000000 ∧ v.l.length ≤ cap ∧ cap ≤ 9223372036854775807 ∧ (p = none → cap = 0) := by
  cases h; exact ⟨by assumption, by assumption, by assumption, by assumption, by assumption, by assumption, by assumption⟩
end Go.Proofs.Ytopkpdaingmmeaa
