/- The parser: expect; the search among words. -/
import Derived.Test.YtdhdjfkknfbmhaaGreatDoorSTok
namespace Go.Proofs.YtdhdjfkknfbmhaaGreatDoor
open Go.RowKit

/-- A row of texts at p, not in block pb. -/
def STs (w : World) (pb : Nat) (p : Option Addr) (ts : List Bs) : Prop := ts ≠ [] → ∃ b off, p = some ⟨b, off, none⟩ ∧ b ≠ pb ∧ b < w.heap.size ∧ ∀ j (h : j < ts.length), w.cell? ⟨b, off + j, none⟩ = some (.string (S ts[j]))
theorem STs.kp {w w' : World} {pb : Nat} {p : Option Addr} {ts : List Bs} (h : STs w pb p ts) (hk : Kp w w' pb) : STs w' pb p ts := fun hne => by
  obtain ⟨b, off, e, h1, h2, h3⟩ := h hne
  exact ⟨b, off, e, h1, Nat.lt_of_lt_of_le h2 hk.size, fun j hj => (World.cell?_of_block (a := ⟨b, off + j, none⟩) (hk.block b h2 h1)).trans (h3 j hj)⟩
theorem STs.bel {w w' : World} {pb : Nat} {p : Option Addr} {ts : List Bs} (h : STs w pb p ts) (hb : Below w.heap.size w w') : STs w' pb p ts := h.kp (Kp.ofBelow hb (Nat.le_refl _))
/-- What a parser of nothing comes to. -/
def Ends0 (w : World) (pb tb off cap : Nat) (M : Nat → Value) (L : List Tk) (T : PR Unit) (e : Ending) (w' : World) : Prop :=
  match T with
  | .ok _ r => e = .returned (.tuple #[]) ∧ Kp w w' pb ∧ ∃ q, L.drop q = r ∧ Psr w' pb tb off cap M L q
  | .err a x => e = .panicked (failV a x) ∧ Kp w w' pb

set_option maxHeartbeats 4000000 in
set_option maxRecDepth 100000 in
theorem expect_any (ts : List Bs) (hs : ∀ s ∈ ts, s.length ≤ 1000) (hl : ts.length ≤ 1000) (p : Option Addr) (c : Nat) (w : World) (pb tb off cap : Nat) (M : Nat → Value) (L : List Tk) (i : Nat) (h : Psr w pb tb off cap M L i) (hT : STs w pb p ts) :
    Calls Tryz.prog 64 #[.pointer (some ⟨pb, 0, none⟩), .slice p ts.length c] w fun e w' => Ends0 w pb tb off cap M L (expectS ts (L.drop i)) e w' := by
  obtain ⟨T, hTT⟩ : ∃ T, expectS ts (L.drop i) = T := ⟨_, rfl⟩
  rw [hTT]
  have HT0 : Hid (expectS (ts.drop 0) (L.drop i) = T) := Lib.hid hTT
  have HP0 := Lib.hid h
  have HS0 := Lib.hid hT
  clear h hT hTT
  go_enter Tryz.func64, Tryz.ntmps64
  go_wp2_with fail
  go_loopw [5, 8] (fun _ v wr => ∃ j q : Nat, j ≤ ts.length ∧ v = .int .i64 j ∧ Hid (expectS (ts.drop j) (L.drop q) = T) ∧ Hid (Psr wr pb tb off cap M L q) ∧ Hid (Kp w wr pb)) (fun _ v _ => ts.length - (intOf v).toNat)
  case atStart => exact ⟨0, i, Nat.zero_le _, rfl, HT0, HP0, Lib.hid (Kp.refl _ _)⟩
  case round =>
    obtain ⟨j, q, hj, rfl, HT, HP, HK⟩ := hrel
    clear HT0 HP0
    by_cases hlt : j < ts.length
    · have hji : (j : Int) < (ts.length : Int) := by omega
      obtain ⟨rb, ro, rfl, -, -, hrc⟩ := (HS0.out.kp HK.out) (by intro h; rw [h] at hlt; simp at hlt)
      have y0 := hrc j hlt
      have hsl := hs _ (List.getElem_mem hlt)
      have HD : Hid (expectS (ts.drop j) (L.drop q) = if seesS (ts[j]'hlt) (L.drop q) = true then expectS (ts.drop (j + 1)) (L.drop (q + 1)) else .err (atS (L.drop q)) 60) := Lib.hid (by
        rw [(List.getElem_cons_drop hlt).symm, expectS, List.tail_drop]; rfl)
      have HSE := Lib.hid (sees_any (ts[j]'hlt) hsl _ pb tb off cap M L q HP.out)
      have HNX : Hid (seesS (ts[j]'hlt) (L.drop q) = true → ∃ t r, L.drop q = t :: r ∧ r ≠ [] ∧ t.t = (ts[j]'hlt)) := Lib.hid fun h => sees_next HP.out h
      have HRQ : Hid (∀ w1, Below _ _ w1 → ∀ b, Calls Tryz.prog 118 #[.pointer (some ⟨pb, 0, none⟩), .bool b] w1 fun e w' => e = (if b = true then .returned (.tuple #[]) else .panicked (failV (atS (L.drop q)) 60)) ∧ Below w1.heap.size w1 w') := Lib.hid fun w1 hb b => require_any b w1 pb tb off cap M L q (HP.out.bel hb (Nat.le_refl _))
      clear hrc
      generalize hsj : ts[j]'hlt = s at *
      clear hsj
      obtain ⟨f, hf⟩ : ∃ f, seesS s (L.drop q) = f := ⟨_, rfl⟩
      rw [hf] at HSE HD HNX
      clear hf
      cases f with
      | true =>
        obtain ⟨t, r, hr, hne, -⟩ := HNX.out rfl
        have HTK : Hid (∀ w1, Below _ _ w1 → Calls Tryz.prog 120 #[.pointer (some ⟨pb, 0, none⟩)] w1 fun e w' => e = .returned (.string (S t.t)) ∧ Psr w' pb tb off cap M L (q + 1) ∧ Kp w1 w' pb) := Lib.hid fun w1 hb => ptake_any w1 pb tb off cap M L q (HP.out.bel hb (Nat.le_refl _)) t r hr hne
        have HD2 : Hid (expectS (ts.drop (j + 1)) (L.drop (q + 1)) = T) := Lib.hid (by have := HD.out.symm.trans HT.out; rwa [if_pos rfl] at this)
        clear HNX HD hr hne
        go_wp2_with (first | (go_at_call 92; refine HSE.out.mono ?_; rintro e w1 ⟨rfl, hb⟩; have HB1 := Lib.hid hb; clear hb) | (go_at_call 118; refine (HRQ.out _ HB1.out true).mono ?_; rintro e w2 ⟨rfl, hb⟩; have HB2 := Lib.hid (HB1.out.trans (hb.mono HB1.out.size)); clear hb) | (go_at_call 120; refine (HTK.out _ HB2.out).mono ?_; rintro e w3 ⟨rfl, hp3, hk3⟩; have HP3 := Lib.hid hp3; have HK3 := Lib.hid (HK.out.trans ((Kp.ofBelow HB2.out (Nat.le_refl _)).trans hk3)); clear hp3 hk3))
        go_roundw
        case rel => exact ⟨j + 1, q + 1, by omega, by go_num, HD2, HP3, HK3⟩
        case measure => simp [intOf]; omega
      | false =>
        have hTe : T = .err (atS (L.drop q)) 60 := by have := HD.out.symm.trans HT.out; rw [if_neg (by decide)] at this; exact this.symm
        subst hTe
        clear HNX HD
        go_wp2_with (first | (go_at_call 92; refine HSE.out.mono ?_; rintro e w1 ⟨rfl, hb⟩; have HB1 := Lib.hid hb; clear hb) | (go_at_call 118; refine (HRQ.out _ HB1.out false).mono ?_; rintro e w2 ⟨rfl, hb⟩; have HB2 := Lib.hid (HB1.out.trans (hb.mono HB1.out.size)); clear hb))
        exact ⟨rfl, rfl, HK.out.trans (Kp.ofBelow HB2.out (Nat.le_refl _))⟩
    · have hji : ¬ (j : Int) < (ts.length : Int) := by omega
      have hTe : T = .ok () (L.drop q) := by have := HT.out; rw [List.drop_of_length_le (by omega)] at this; exact this.symm
      subst hTe
      go_wp2_with fail
      refine bodyPost_end (v := .tuple #[]) ?_ rfl ⟨rfl, HK.out, q, rfl, HP.out⟩
      simp [results, Tryz.results64, go_sem]
end Go.Proofs.YtdhdjfkknfbmhaaGreatDoor
