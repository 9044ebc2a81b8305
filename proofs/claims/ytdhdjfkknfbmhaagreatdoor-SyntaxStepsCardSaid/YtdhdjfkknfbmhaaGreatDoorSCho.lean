/- The parser: which of several words is next; choose. -/
import Derived.Test.YtdhdjfkknfbmhaaGreatDoorSExp
namespace Go.Proofs.YtdhdjfkknfbmhaaGreatDoor
open Go.RowKit

def idxV (o : Option Nat) : Int := match o with | some j => (j : Int) | none => -1
theorem idxS_step (ts : List Bs) (l : List Tk) (j : Nat) (h : j < ts.length) (n : seesS ts[j] l = false) (k : idxS ts l = (idxS (ts.drop j) l).map (· + j)) : idxS ts l = (idxS (ts.drop (j + 1)) l).map (· + (j + 1)) := by
  rw [k, (List.getElem_cons_drop h).symm, idxS, if_neg (by rw [n]; decide), Option.map_map]
  congr 1
  funext x
  show x + 1 + j = x + (j + 1)
  omega
theorem idxS_sees : ∀ (ts : List Bs) (l : List Tk) (j : Nat), idxS ts l = some j → ∃ s ∈ ts, seesS s l = true
  | [], _, _, h => by cases h
  | s :: ts, l, j, h => by
    rw [idxS] at h
    split at h
    · exact ⟨s, List.mem_cons_self .., by assumption⟩
    · cases hi : idxS ts l with
      | none => rw [hi] at h; cases h
      | some k =>
        obtain ⟨x, hx, hs⟩ := idxS_sees ts l k hi
        exact ⟨x, List.mem_cons_of_mem _ hx, hs⟩
theorem idxS_lt : ∀ (ts : List Bs) (l : List Tk) (j : Nat), idxS ts l = some j → j < ts.length
  | [], _, _, h => by cases h
  | s :: ts, l, j, h => by
    rw [idxS] at h
    split at h
    · cases h; simp
    · cases hi : idxS ts l with
      | none => rw [hi] at h; cases h
      | some k =>
        rw [hi] at h
        have := idxS_lt ts l k hi
        cases h
        simp only [List.length_cons]; omega

set_option maxHeartbeats 4000000 in
set_option maxRecDepth 100000 in
theorem index_any (ts : List Bs) (hs : ∀ s ∈ ts, s.length ≤ 1000) (hl : ts.length ≤ 1000) (p : Option Addr) (c : Nat) (w : World) (pb tb off cap : Nat) (M : Nat → Value) (L : List Tk) (i : Nat) (h : Psr w pb tb off cap M L i) (hT : STs w pb p ts) :
    Calls Tryz.prog 135 #[.slice p ts.length c, .func (Fn.func 92) #[.pointer (some ⟨pb, 0, none⟩)] #[]] w fun e w' => e = .returned (.int .i64 (idxV (idxS ts (L.drop i)))) ∧ Below w.heap.size w w' := by
  obtain ⟨T, hTT⟩ : ∃ T, idxS ts (L.drop i) = T := ⟨_, rfl⟩
  rw [hTT]
  have HTT := Lib.hid hTT
  have HT0 : Hid (idxS ts (L.drop i) = (idxS (ts.drop 0) (L.drop i)).map (· + 0)) := Lib.hid (by rw [List.drop_zero]; cases idxS ts (L.drop i) <;> rfl)
  have HP := Lib.hid h
  have HS0 := Lib.hid hT
  clear h hT hTT
  go_enter Tryz.func135, Tryz.ntmps135
  go_wp2_with fail
  go_loopw [5, 8] (fun _ v wr => ∃ j : Nat, j ≤ ts.length ∧ v = .int .i64 j ∧ Hid (idxS ts (L.drop i) = (idxS (ts.drop j) (L.drop i)).map (· + j)) ∧ Hid (Below w.heap.size w wr)) (fun _ v _ => ts.length - (intOf v).toNat)
  case atStart => exact ⟨0, Nat.zero_le _, rfl, HT0, Lib.hid (Below.refl _ _)⟩
  case round =>
    obtain ⟨j, hj, rfl, HI, HB⟩ := hrel
    clear HT0
    by_cases hlt : j < ts.length
    · have hji : (j : Int) < (ts.length : Int) := by omega
      obtain ⟨rb, ro, rfl, -, -, hrc⟩ := (HS0.out.bel HB.out) (by intro h; rw [h] at hlt; simp at hlt)
      have y0 := hrc j hlt
      have hsl := hs _ (List.getElem_mem hlt)
      have HSE := Lib.hid (sees_any (ts[j]'hlt) hsl _ pb tb off cap M L i (HP.out.bel HB.out (Nat.le_refl _)))
      have HST : Hid (seesS (ts[j]'hlt) (L.drop i) = false → idxS ts (L.drop i) = (idxS (ts.drop (j + 1)) (L.drop i)).map (· + (j + 1))) := Lib.hid fun n => idxS_step ts _ j hlt n HI.out
      have HYES : Hid (seesS (ts[j]'hlt) (L.drop i) = true → T = some j) := Lib.hid fun n => by
        rw [← HTT.out, HI.out, (List.getElem_cons_drop hlt).symm, idxS, if_pos n, Option.map_some, Nat.zero_add]
      clear hrc
      generalize hsj : ts[j]'hlt = s at *
      clear hsj
      obtain ⟨f, hf⟩ : ∃ f, seesS s (L.drop i) = f := ⟨_, rfl⟩
      rw [hf] at HSE HST HYES
      clear hf
      cases f with
      | true =>
        have hTe := HYES.out rfl
        subst hTe
        clear HST HYES
        go_wp2_with (go_at_call 92; refine HSE.out.mono ?_; rintro e w1 ⟨rfl, hb⟩; have HB1 := Lib.hid (HB.out.trans (hb.mono HB.out.size)); clear hb)
        go_ret
        exact ⟨rfl, HB1.out⟩
      | false =>
        have HI2 := Lib.hid (HST.out rfl)
        clear HST HYES
        go_wp2_with (go_at_call 92; refine HSE.out.mono ?_; rintro e w1 ⟨rfl, hb⟩; have HB1 := Lib.hid (HB.out.trans (hb.mono HB.out.size)); clear hb)
        go_roundw
        case rel => exact ⟨j + 1, by omega, by go_num, HI2, HB1⟩
        case measure => simp [intOf]; omega
    · have hji : ¬ (j : Int) < (ts.length : Int) := by omega
      have hTe : T = none := by rw [← HTT.out, HI.out, List.drop_of_length_le (by omega)]; rfl
      subst hTe
      go_wp2_with fail
      go_ret
      exact ⟨rfl, HB.out⟩

/-- What a parser of an index or a number comes to. -/
def EndsI (w : World) (pb tb off cap : Nat) (M : Nat → Value) (L : List Tk) (T : PR Int) (e : Ending) (w' : World) : Prop :=
  match T with
  | .ok a r => e = .returned (.int .i64 a) ∧ Kp w w' pb ∧ ∃ q, L.drop q = r ∧ Psr w' pb tb off cap M L q
  | .err a x => e = .panicked (failV a x) ∧ Kp w w' pb

set_option maxHeartbeats 4000000 in
set_option maxRecDepth 100000 in
theorem choose_any (ts : List Bs) (hs : ∀ s ∈ ts, s.length ≤ 1000) (hl : ts.length ≤ 1000) (p : Option Addr) (c : Nat) (w : World) (pb tb off cap : Nat) (M : Nat → Value) (L : List Tk) (i : Nat) (h : Psr w pb tb off cap M L i) (hT : STs w pb p ts) :
    Calls Tryz.prog 123 #[.pointer (some ⟨pb, 0, none⟩), .slice p ts.length c] w fun e w' => EndsI w pb tb off cap M L (PR.map (fun (j : Nat) => ((j : Nat) : Int)) (chooseS ts (L.drop i))) e w' := by
  have HI := Lib.hid (index_any ts hs hl p c w pb tb off cap M L i h hT)
  have HRQ : Hid (∀ w1, Below w.heap.size w w1 → ∀ b, Calls Tryz.prog 118 #[.pointer (some ⟨pb, 0, none⟩), .bool b] w1 fun e w' => e = (if b = true then .returned (.tuple #[]) else .panicked (failV (atS (L.drop i)) 60)) ∧ Below w1.heap.size w1 w') := Lib.hid fun w1 hb b => require_any b w1 pb tb off cap M L i (h.bel hb (Nat.le_refl _))
  have hmf : ∀ (fn : Fn) (first cap : Array Value) (w : World), (Instr.makeFunc fn first cap).run Tryz.prog w = .ok (.func fn first cap) w := fun _ _ _ _ => rfl
  unfold chooseS
  cases hx : idxS ts (L.drop i) with
  | none =>
    rw [hx] at HI
    have hi : ¬ (0 : Int) ≤ idxV none := by decide
    change Hid (Calls _ _ _ _ fun e w' => e = .returned (.int .i64 (-1)) ∧ _) at HI
    clear h hT hx
    show Calls _ _ _ _ fun e w' => e = .panicked (failV (atS (L.drop i)) 60) ∧ Kp w w' pb
    go_enter Tryz.func123, Tryz.ntmps123
    go_wp2_with (first | (go_at_call 135; refine HI.out.mono ?_; rintro e w1 ⟨rfl, hb⟩; have HB1 := Lib.hid hb; clear hb) | (go_at_call 118; refine (HRQ.out _ HB1.out false).mono ?_; rintro e w2 ⟨rfl, hb⟩; have HB2 := Lib.hid (HB1.out.trans (hb.mono HB1.out.size)); clear hb))
    exact ⟨rfl, rfl, Kp.ofBelow HB2.out (Nat.le_refl _)⟩
  | some j =>
    rw [hx] at HI
    have hj := idxS_lt _ _ _ hx
    obtain ⟨s, hsm, hss⟩ := idxS_sees _ _ _ hx
    obtain ⟨t, r, hr, hne, -⟩ := sees_next h hss
    have hji : (0 : Int) ≤ (j : Int) := by omega
    have HTK : Hid (∀ w1, Below w.heap.size w w1 → Calls Tryz.prog 120 #[.pointer (some ⟨pb, 0, none⟩)] w1 fun e w' => e = .returned (.string (S t.t)) ∧ Psr w' pb tb off cap M L (i + 1) ∧ Kp w1 w' pb) := Lib.hid fun w1 hb => ptake_any w1 pb tb off cap M L i (h.bel hb (Nat.le_refl _)) t r hr hne
    change Hid (Calls _ _ _ _ fun e w' => e = .returned (.int .i64 (j : Int)) ∧ _) at HI
    clear h hT hx hss hr hne
    show Calls _ _ _ _ fun e w' => e = .returned (.int .i64 (j : Int)) ∧ Kp w w' pb ∧ ∃ q, L.drop q = (L.drop i).tail ∧ Psr w' pb tb off cap M L q
    go_enter Tryz.func123, Tryz.ntmps123
    go_wp2_with (first | (go_at_call 135; refine HI.out.mono ?_; rintro e w1 ⟨rfl, hb⟩; have HB1 := Lib.hid hb; clear hb) | (go_at_call 118; refine (HRQ.out _ HB1.out true).mono ?_; rintro e w2 ⟨rfl, hb⟩; have HB2 := Lib.hid (HB1.out.trans (hb.mono HB1.out.size)); clear hb) | (go_at_call 120; refine (HTK.out _ HB2.out).mono ?_; rintro e w3 ⟨rfl, hp3, hk3⟩; have HP3 := Lib.hid hp3; have HK3 := Lib.hid ((Kp.ofBelow HB2.out (Nat.le_refl _)).trans hk3); clear hp3 hk3))
    go_ret
    exact ⟨rfl, HK3.out, i + 1, by rw [List.tail_drop], HP3.out⟩
end Go.Proofs.YtdhdjfkknfbmhaaGreatDoor
