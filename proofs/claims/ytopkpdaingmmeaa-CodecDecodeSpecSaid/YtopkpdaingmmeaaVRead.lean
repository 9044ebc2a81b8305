/- What remains to be read: the taking of bytes. -/
import Derived.Test.YtopkpdaingmmeaaVShift
namespace Go.Proofs.Ytopkpdaingmmeaa
open Go.RowKit

/-- The bytes l lie at q, in a block below lo. -/
def Lies (w : World) (lo : Nat) (q : Option Addr) (l : List UInt8) : Prop := l ≠ [] → ∃ b off, q = some ⟨b, off, none⟩ ∧ b < lo ∧ ∀ i (h : i < l.length), w.cell? ⟨b, off + i, none⟩ = some (.int .u8 l[i].toNat)
theorem Lies.keep {w w' : World} {lo : Nat} {q : Option Addr} {l : List UInt8} (h : Lies w lo q l) (hb : ∀ k, k < lo → w'.heap[k]? = w.heap[k]?) : Lies w' lo q l := fun hne => by
  obtain ⟨b, off, e1, e2, e3⟩ := h hne
  exact ⟨b, off, e1, e2, fun i hi => (World.cell?_of_block (a := ⟨b, off + i, none⟩) (hb b e2)).trans (e3 i hi)⟩
theorem Lies.take {w : World} {lo : Nat} {q : Option Addr} {l : List UInt8} (h : Lies w lo q l) (n : Nat) : Lies w lo q (l.take n) := fun hne => by
  obtain ⟨b, off, e1, e2, e3⟩ := h (by rintro rfl; simp at hne)
  exact ⟨b, off, e1, e2, fun i hi => by rw [List.getElem_take]; exact e3 i (by rw [List.length_take] at hi; omega)⟩
theorem Lies.drop {w : World} {lo : Nat} {q q' : Option Addr} {l : List UInt8} (h : Lies w lo q l) (n : Nat) (hq : n < l.length → ∀ b off, q = some ⟨b, off, none⟩ → q' = some ⟨b, off + n, none⟩) : Lies w lo q' (l.drop n) := fun hne => by
  have hlt : n < l.length := Nat.lt_of_not_le fun hh => hne (List.drop_eq_nil_of_le hh)
  obtain ⟨b, off, e1, e2, e3⟩ := h (by rintro rfl; simp at hlt)
  refine ⟨b, off + n, hq hlt b off e1, e2, fun i hi => ?_⟩
  rw [List.length_drop] at hi
  rw [List.getElem_drop, Nat.add_assoc]
  exact e3 (n + i) (by omega)

/-- The input lies in block ib: what remains is bs, in a block below lo. -/
structure Inp (w : World) (lo ib : Nat) (bs : List UInt8) : Prop where
  hlo : lo ≤ ib
  lt : ib < w.heap.size
  fz : w.frozen? ⟨ib, 0, none⟩ = false
  len : bs.length ≤ 1000000000000
  cell : ∃ p, w.cell? ⟨ib, 0, none⟩ = some (.slice p bs.length bs.length) ∧ Lies w lo p bs

theorem Inp.same {w w' : World} {lo ib : Nat} {bs : List UInt8} (h : Inp w lo ib bs) (hsz : w.heap.size ≤ w'.heap.size) (hb : ∀ k, k < w.heap.size → w'.heap[k]? = w.heap[k]?) : Inp w' lo ib bs := by
  obtain ⟨h1, h2, h3, h4, p, h5, h6⟩ := h
  exact ⟨h1, Nat.lt_of_lt_of_le h2 hsz, (World.frozen?_of_block (a := ⟨ib, 0, none⟩) (hb ib h2)).trans h3, h4, p, (World.cell?_of_block (a := ⟨ib, 0, none⟩) (hb ib h2)).trans h5, h6.keep fun k hk => hb k (by omega)⟩
theorem Inp.bel {w w' : World} {lo ib m : Nat} {bs : List UInt8} (h : Inp w lo ib bs) (hb : Below m w w') (hm : w.heap.size ≤ m) : Inp w' lo ib bs :=
  h.same hb.size fun k hk => hb.block k (by omega)
theorem Inp.alloc {w : World} {lo ib : Nat} {bs : List UInt8} (h : Inp w lo ib bs) (o : Obj) : Inp (w.alloc o) lo ib bs := h.bel ((Below.refl w.heap.size w).alloc (Nat.le_refl _) o) (Nat.le_refl _)
/-- Some bytes have been taken. -/
theorem Inp.laid {w : World} {lo ib : Nat} {bs bs' : List UInt8} (h : Inp w lo ib bs) (q : Option Addr) (m : Nat) (hm : m = bs'.length) (hle : bs'.length ≤ bs.length) (hq : Lies w lo q bs') :
    Inp (w.setCell ⟨ib, 0, none⟩ (.slice q m m)) lo ib bs' ∧ Kept w (w.setCell ⟨ib, 0, none⟩ (.slice q m m)) ib none := by
  subst hm
  obtain ⟨h1, h2, h3, h4, p, h5, h6⟩ := h
  have hb : ∀ k, k < lo → (w.setCell ⟨ib, 0, none⟩ (.slice q bs'.length bs'.length)).heap[k]? = w.heap[k]? := fun k hk => heap_setCell_other _ _ _ _ (by dsimp only; omega)
  exact ⟨⟨h1, by simpa using h2, by simpa using h3, by omega, q, World.cell?_setCell_same _ _ _ h5, hq.keep hb⟩, rfl, rfl, rfl, by simp, fun k hk hne _ => heap_setCell_other _ _ _ _ hne⟩

/-- The panic that says that there is no such encoding. -/
def noCode : List PanicEntry := [{ v := .iface 28 (.int .i64 20), recovered := false }]

set_option maxHeartbeats 1000000 in
theorem take_no (n : Nat) (w : World) (lo ib : Nat) (bs : List UInt8) (h : Inp w lo ib bs) (hn : bs.length < n) (hn2 : n ≤ 9223372036854775807) :
    Calls Try.prog 48 #[.pointer (some ⟨ib, 0, none⟩), .int .i64 n] w fun e w' => e = .panicked noCode ∧ w' = w := by
  obtain ⟨h1, h2, h3, h4, p, h5, h6⟩ := h
  clear h6
  generalize bs.length = len at *
  go_enter Try.func48, Try.ntmps48
  go_wp2_with fail
  exact ⟨rfl, rfl, rfl⟩

set_option maxHeartbeats 1000000 in
theorem take_yes (n : Nat) (w : World) (lo ib : Nat) (bs : List UInt8) (h : Inp w lo ib bs) (hn : n ≤ bs.length) :
    Calls Try.prog 48 #[.pointer (some ⟨ib, 0, none⟩), .int .i64 n] w fun e w' => ∃ q, e = .returned (.slice q n n) ∧ Lies w' lo q (bs.take n) ∧ Inp w' lo ib (bs.drop n) ∧ Kept w w' ib none := by
  have H0 := Lib.hid h
  obtain ⟨h1, h2, h3, h4, p, h5, h6⟩ := h
  have H6 := Lib.hid h6; clear h6
  generalize hL : bs.length = len at *
  have HL := Lib.hid hL; clear hL
  go_enter Try.func48, Try.ntmps48
  go_wp2_with fail
  · go_ret
    have hl := HL.out
    have L := H0.out.laid (bs' := bs.drop n) p 0 (by rw [List.length_drop]; omega) (by rw [List.length_drop]; omega) (H6.out.drop n (fun hlt => by omega))
    exact ⟨p, rfl, (H6.out.take n).keep (fun k hk => L.2.block k (by omega) (by omega) (by simp)), L.1, L.2⟩
  · go_ret
    have hl := HL.out
    have L := H0.out.laid (bs' := bs.drop n) (p.map (·.add n)) (len - n) (by rw [List.length_drop]; omega) (by rw [List.length_drop]; omega) (H6.out.drop n (fun _ b off e => by rw [e]; simp [Addr.add]))
    exact ⟨p, rfl, (H6.out.take n).keep (fun k hk => L.2.block k (by omega) (by omega) (by simp)), L.1, L.2⟩

/-- What the reading of a number comes to. -/
def NumPost (w : World) (lo ib : Nat) (o : Option (Nat × List UInt8)) (e : Ending) (w' : World) : Prop :=
  Kept w w' ib none ∧ match o with
    | none => e = .panicked noCode
    | some (u, r) => e = .returned (.int .u64 u) ∧ u < 18446744073709551616 ∧ Inp w' lo ib r

theorem Inp.kept_lo {w w' : World} {lo ib : Nat} {bs : List UInt8} (h : Inp w lo ib bs) (hk : Kept w w' ib none) : Below lo w w' :=
  hk.below h.hlo (fun k e => by cases e) (by have := h.hlo; have := h.lt; omega)

set_option maxHeartbeats 4000000 in
set_option maxRecDepth 100000 in
theorem rdNum_any (w : World) (lo ib : Nat) (bs : List UInt8) (h : Inp w lo ib bs) :
    Calls Try.prog 50 #[.pointer (some ⟨ib, 0, none⟩)] w (NumPost w lo ib (rdNum 0 0 bs)) := by
  have hlen := h.len
  have H0 := Lib.hid h; clear h
  go_enter Try.func50, Try.ntmps50
  go_wp2_with fail
  go_loopw [3, 4] (fun a s wr => ∃ (acc k : Nat) (cs : List UInt8), a = .int .u64 acc ∧ s = .int .i64 (7 * k : Nat) ∧ acc < 2 ^ (7 * k) ∧ acc < 18446744073709551616 ∧ k + cs.length = bs.length ∧ Hid (rdNum 0 0 bs = rdNum (7 * k) acc cs) ∧ Hid (Inp wr lo ib cs) ∧ Hid (Kept w wr ib none)) (fun _ s _ => 7 * bs.length + 7 - (intOf s).toNat)
  case atStart => exact ⟨0, 0, bs, rfl, rfl, by simp, by decide, by simp, Lib.hid rfl, Lib.hid H0.out, Lib.hid (Kept.refl _ _ _)⟩
  case round =>
    obtain ⟨acc, k, cs, rfl, rfl, hacc, hacc2, hk, HR, HI, HK⟩ := hrel
    cases cs with
    | nil =>
      go_wp2_with fail
      go_at_call 48
      refine (take_no 1 wr lo ib [] HI.out (by simp) (by omega)).mono ?_
      rintro e w' ⟨rfl, rfl⟩
      go_wp2_with fail
      refine ⟨rfl, HK.out, ?_⟩
      rw [HR.out]; rfl
    | cons c cs =>
      go_wp2_with fail
      go_at_call 48
      refine (take_yes 1 wr lo ib (c :: cs) HI.out (by simp)).mono ?_
      rintro e w' ⟨q, rfl, hq, hi, hkk⟩
      obtain ⟨b, off, rfl, hb, hc⟩ := hq (by simp)
      have e0 := hc 0 (by simp)
      have HI2 := Lib.hid hi
      have HK2 := Lib.hid (HK.out.trans hkk (.inl rfl))
      change w'.cell? ⟨b, off, none⟩ = some (.int .u8 c.toNat) at e0
      clear hc hi hkk hq
      have hc256 := c.toNat_lt
      have HRC : Hid (rdNum (7 * k) acc (c :: cs) = if (c.toNat = 0 ∧ 0 < 7 * k) ∨ 18446744073709551616 ≤ c.toNat % 128 * 2 ^ (7 * k) then none
        else if c.toNat < 128 then some (acc + c.toNat % 128 * 2 ^ (7 * k), cs) else rdNum (7 * k + 7) (acc + c.toNat % 128 * 2 ^ (7 * k)) cs) := Lib.hid (by rw [rdNum])
      generalize c.toNat = x at *
      by_cases hx0 : x = 0
      · subst hx0
        obtain ⟨part, back, hshl, hshr, hiff, hfine⟩ := digit_facts 0 k acc hc256 hacc hacc2
        rw [show ((0 : Nat) : Int) % 128 = 0 from rfl] at hshl
        have HIFF := Lib.hid hiff; clear hiff
        have HFINE := Lib.hid hfine; clear hfine
        have hback : back = 0 := by
          have := HIFF.out.2 (by simp)
          simpa using this
        subst hback
        by_cases hk0 : 0 < k
        · have HNO : Hid (rdNum 0 0 bs = none) := Lib.hid (by rw [HR.out, HRC.out, if_pos (.inl ⟨rfl, by omega⟩)])
          clear HRC HR HFINE HIFF
          go_wp2_with fail
          exact ⟨rfl, HK2.out, by rw [HNO.out]; rfl⟩
        · obtain rfl : k = 0 := by omega
          obtain ⟨rfl, hor, hs, _⟩ := HFINE.out (by simp)
          have hres : rdNum 0 0 bs = some (acc, cs) := by rw [HR.out, HRC.out, if_neg (by simp), if_pos (by decide)]; rfl
          have hor' : bits .or .u64 (acc : Int) 0 = acc := hor
          have HRES := Lib.hid hres
          clear HRC HR HFINE HIFF hres hor hs hshl hshr
          go_wp2_with fail
          go_ret
          exact ⟨HK2.out, by rw [HRES.out]; exact ⟨rfl, hacc2, HI2.out⟩⟩
      · obtain ⟨part, back, hshl, hshr, hiff, hfine⟩ := digit_facts x k acc hc256 hacc hacc2
        have HFINE := Lib.hid hfine; clear hfine
        have hx1 : ¬ (x : Int) = 0 := by omega
        by_cases hbig : 18446744073709551616 ≤ x % 128 * 2 ^ (7 * k)
        · have HNO : Hid (rdNum 0 0 bs = none) := Lib.hid (by rw [HR.out, HRC.out, if_pos (.inr hbig)])
          have hb1 : ¬ (back : Int) = (x : Int) % 128 := fun e => hiff.1 (by omega) hbig
          clear HRC HR HFINE hiff hbig
          go_wp2_with fail
          exact ⟨rfl, HK2.out, by rw [HNO.out]; rfl⟩
        · have hb1 : (back : Int) = (x : Int) % 128 := by have := hiff.2 hbig; omega
          have hres := HR.out.trans (HRC.out.trans (if_neg (by rintro (h | h); exact hx0 h.1; exact hbig h)))
          obtain ⟨hp, hor, hs, hs2⟩ := HFINE.out hbig
          clear HRC HR HFINE hiff hbig
          rw [← hp] at hres hor hs hs2
          have hle : acc + part < 18446744073709551616 := hs
          by_cases hx2 : x < 128
          · rw [if_pos hx2] at hres
            have HRES := Lib.hid hres
            have hx3 : (x : Int) < 128 := by omega
            clear hres hp hs2
            generalize acc + part = sum at *
            go_wp2_with fail
            go_ret
            exact ⟨HK2.out, by rw [HRES.out]; exact ⟨rfl, hle, HI2.out⟩⟩
          · rw [if_neg hx2] at hres
            have HRES := Lib.hid hres
            have hx3 : ¬ (x : Int) < 128 := by omega
            clear hres hp
            generalize acc + part = sum at *
            go_wp2_with fail
            refine ⟨⟨sum, k + 1, cs, rfl, by congr 1, by rw [Nat.mul_add]; exact hs2, hle, by simp at hk; omega, Lib.hid (by rw [HRES.out, Nat.mul_add]), Lib.hid HI2.out, Lib.hid HK2.out⟩, ?_⟩
            simp at hk
            simp [intOf]
            omega
end Go.Proofs.Ytopkpdaingmmeaa
