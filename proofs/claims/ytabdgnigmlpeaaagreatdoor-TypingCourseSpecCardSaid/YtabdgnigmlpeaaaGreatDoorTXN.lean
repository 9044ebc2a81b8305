/- Lists of names. -/
import Derived.Test.YtabdgnigmlpeaaaGreatDoorTXC
import Derived.Test.YtabdgnigmlpeaaaGreatDoorTXC
import Derived.Test.YtabdgnigmlpeaaaGreatDoorTXA
import Derived.Test.YtabdgnigmlpeaaaGreatDoorTXR
import Derived.Deep.AppendLies
namespace Go.Proofs.YtabdgnigmlpeaaaGreatDoor
open Go.RowKit Go.Maps Go.WideMaps

/-- All are names, and no two of them the same. -/
def namesOk (l : List Bs) : Bool := l.all nameE && decide l.Nodup
theorem namesOk_yes {l : List Bs} (h : ∀ k ∈ l, l.count k ≤ 1 ∧ nameE k = true) : namesOk l = true := by
  unfold namesOk
  rw [Bool.and_eq_true, List.all_eq_true, decide_eq_true_eq, List.nodup_iff_count]
  refine ⟨fun k hk => (h k hk).2, fun k => ?_⟩
  by_cases hk : k ∈ l
  · exact (h k hk).1
  · rw [List.count_eq_zero_of_not_mem hk]; omega
theorem namesOk_no {l : List Bs} {k : Bs} (hk : k ∈ l) (h : ¬(l.count k ≤ 1 ∧ nameE k = true)) : namesOk l = false := by
  cases hq : namesOk l with
  | false => rfl
  | true =>
    exfalso
    unfold namesOk at hq
    rw [Bool.and_eq_true, List.all_eq_true, decide_eq_true_eq, List.nodup_iff_count] at hq
    exact h ⟨hq.2 k, hq.1 k hk⟩
theorem keyOf_S {key : Value} {kl : Lit} (h : keyOf Tryz.prog 9 key = some kl) : ∃ s : ByteArray, key = .string s ∧ kl = .string s.data.toList := by
  cases key <;> simp [keyOf, Tryz.underlying9, mapKey] at h
  exact ⟨_, rfl, h.2.symm⟩
/-- What of the map has been looked at is as it should be. -/
structure Seen (D : DataW Unit) (N : List Bs) (left : Lit → Bool) : Prop where
  sub : ∀ kl, left kl = true → has D kl = true
  ok : ∀ k : Bs, k ∈ N → left (.string k) = false → N.count k ≤ 1 ∧ nameE k = true
theorem Seen.start {D : DataW Unit} {N : List Bs} (h : CntS D N) : Seen D N (has D) := ⟨fun _ h => h, fun k hk hl => by
  rw [h.hs] at hl
  have : N.contains k = true := by simpa using hk
  rw [this] at hl
  cases hl⟩
theorem Seen.step {D : DataW Unit} {N : List Bs} {left : Lit → Bool} (h : Seen D N left) (k : Bs) (hk : N.count k ≤ 1 ∧ nameE k = true) : Seen D N (fun z => left z && !z.sameKey (.string k)) := by
  refine ⟨fun kl hl => h.sub kl (by simp at hl; exact hl.1), fun k2 hk2 hl => ?_⟩
  by_cases he : k2 = k
  · subst he; exact hk
  · refine h.ok k2 hk2 ?_
    have hs : (Lit.string k2).sameKey (.string k) = false := sameKey_ne (by intro e; exact he (by simpa using e))
    simpa [hs] using hl

set_option maxHeartbeats 4000000 in
theorem named_mat {l : List MatD} (g : Nat) (eg : ∀ args w, (callFunc g args).run Tryz.prog w = .ok (.enter g args) w) {p : Option Addr} {cap : Nat} {w : World} {Q : Nat → Prop} (h : FlatIn w Q 2 MatD.cells l p cap) (hl : l.length ≤ 1000000)
    (hcall : ∀ (W : World) (x : MatD), Calls Tryz.prog g #[.agg #[.string x.n, .int .i64 x.k]] W fun e w' => e = .returned (.string x.n) ∧ Below W.heap.size W w') (hsz : ∀ x ∈ l, x.n.size ≤ maxLen) :
    Calls Tryz.prog 61 #[.slice p l.length cap, .func (Fn.func g) #[] #[]] w fun e w' => e = .returned (.bool (namesOk (l.map fun x => x.n.data.toList))) ∧ Below w.heap.size w w' := by
  have HC := Lib.hid (counts_mat g eg h hl hcall hsz)
  clear h hcall hsz
  generalize (l.map fun x => x.n.data.toList) = N at *
  obtain ⟨T, hT⟩ : ∃ T, namesOk N = T := ⟨_, rfl⟩
  have HT := Lib.hid hT
  rw [hT]
  clear hT
  go_enter Tryz.func61, Tryz.ntmps61
  go_wp2_with (first
    | (go_at_call 132; (with_reducible refine HC.out.mono ?_); rintro e w1 ⟨D, rfl, ho, hd, hb⟩; have HO := Lib.hid ho; have HD := Lib.hid hd; have HB := Lib.hid hb; clear ho hd hb)
    | (at_range; refine wpList_range_own _ rfl _ 189 rfl 9 3 lawS Tryz.underlying189 _ w.heap.size l.length D rfl HO.out ?_; intro w2 hrg0 hg0 hs0; have HR0 := Lib.hid hrg0; have HB2 : Hid (Below w.heap.size w w2) := Lib.hid (HB.out.grown hg0 HB.out.size (fun j hj => by cases hj)); clear hrg0 hg0 hs0))
  have HN : Hid (∀ W (x : ByteArray), Calls Tryz.prog 60 #[.string x] W fun e w' => e = .returned (.bool (nameE x.data.toList)) ∧ Below W.heap.size W w') := Lib.hid fun W x => by
    have := isName_any x.data.toList W
    rwa [S_eta] at this
  clear HC
  go_frame
  go_loopw [11] (fun _ wr => ∃ (left : Lit → Bool) (cnt : Nat), Hid (wr.ranges Tryz.prog 9 (plainElem (H := Unit) Tryz.prog 3) w.heap.size w1.heap.size l.length D left cnt) ∧ Hid (Seen D N left) ∧ Hid (Below w.heap.size w wr)) (fun _ wr => wr.rangeLeft w.heap.size w1.heap.size)
  case atStart => exact ⟨has D, size D, HR0, Lib.hid (Seen.start HD.out), HB2⟩
  case round =>
    obtain ⟨left, cnt, HR, HS, HBr⟩ := hrel
    clear HR0 HB2
    have HBm := Lib.hid (HR.out.owns.lt)
    go_wp2_with (at_next; refine wpList_next_ranges _ rfl _ rfl 9 lawS (plainElem (H := Unit) Tryz.prog 3) Value.string (Value.int .i64) (fun key kl hk => by obtain ⟨s, rfl, _⟩ := keyOf_S hk; exact ⟨s, rfl⟩) (fun v y hv => by obtain ⟨c, rfl, _⟩ := plainElem_int_inv Tryz.underlying3 hv; exact ⟨c, rfl⟩) w.heap.size w1.heap.size l.length D left cnt rfl HR.out ?_ ?_)
    · intro hc0 hl0
      have hT : T = true := by
        rw [← HT.out]
        exact namesOk_yes fun k hk => HS.out.ok k hk (hl0 _)
      subst hT
      clear hl0 hc0
      go_wp2_with fail
      go_ret
      exact ⟨rfl, HBr.out⟩
    · intro x cc kl ya yb w3 cnt3 hkey hlk hy hat hrg3 hlt hg3 hs3 hen
      obtain ⟨s, e1, rfl⟩ := keyOf_S hkey
      cases e1
      obtain ⟨c', e2, hy', -⟩ := plainElem_int_inv Tryz.underlying3 hy
      cases e2
      cases hy'
      have hcc : cc = (N.count x.data.toList : Nat) := by
        have h2 := HD.out.at' x.data.toList
        rw [hat] at h2
        simpa using h2
      have hmem : x.data.toList ∈ N := by
        have h2 := HS.out.sub _ hlk
        rw [HD.out.hs] at h2
        simpa using h2
      have HB3 : Hid (Below w.heap.size w w3) := Lib.hid (HBr.out.grown hg3 HBr.out.size (fun j hj => by cases hj; exact HB.out.size))
      have HNx := Lib.hid (HN.out w3 x)
      have HR3 := Lib.hid hrg3
      have HRl : Hid (w3.rangeLeft w.heap.size w1.heap.size < wr.rangeLeft w.heap.size w1.heap.size) := Lib.hid (by rw [hrg3.left_eq, HR.out.left_eq]; exact hlt)
      have HOK : Hid (N.count x.data.toList ≤ 1 ∧ nameE x.data.toList = true → T = T) := Lib.hid fun _ => rfl
      have HNo : Hid (¬(N.count x.data.toList ≤ 1 ∧ nameE x.data.toList = true) → T = false) := Lib.hid fun h => by rw [← HT.out]; exact namesOk_no hmem h
      have HSt := Lib.hid (HS.out.step x.data.toList)
      clear hkey hlk hy hat hrg3 hlt hg3 hs3 hmem HS HR HBr HD HOK HN
      by_cases h1 : cc ≤ 1
      · have h1' : ¬ (1 : Int) < cc := by omega
        have h1n : N.count x.data.toList ≤ 1 := by omega
        generalize hq : nameE x.data.toList = q at *
        cases q with
        | true =>
          have HS4 := Lib.hid (HSt.out ⟨h1n, rfl⟩)
          clear HSt HNo hq hcc h1n
          go_wp2_with (go_at_call 60; (with_reducible refine HNx.out.mono ?_); rintro e w4 ⟨rfl, hb⟩; have HB4 := Lib.hid (HB3.out.trans (hb.mono HB3.out.size)); have HR4 := Lib.hid (HR3.out.kept (gr_bel none hb) (by simp) (by simp)); clear hb)
          go_roundw
          case rel => exact ⟨_, cnt3, HR4, HS4, HB4⟩
          case measure =>
            rw [HR4.out.left_eq]
            have := HRl.out
            rw [HR3.out.left_eq] at this
            exact this
        | false =>
          have hT : T = false := HNo.out (by simp)
          subst hT
          clear HSt HNo hq hcc h1n
          go_wp2_with (go_at_call 60; (with_reducible refine HNx.out.mono ?_); rintro e w4 ⟨rfl, hb⟩; have HB4 := Lib.hid (HB3.out.trans (hb.mono HB3.out.size)); clear hb)
          go_ret
          exact ⟨rfl, HB4.out⟩
      · have h1' : (1 : Int) < cc := by omega
        have hT : T = false := HNo.out (by omega)
        subst hT
        clear HSt HNo hcc HNx
        go_wp2_with fail
        go_ret
        exact ⟨rfl, HB3.out⟩
set_option maxHeartbeats 4000000 in
theorem named_dist {l : List (DistD × DLoc)} (g : Nat) (eg : ∀ args w, (callFunc g args).run Tryz.prog w = .ok (.enter g args) w) {p : Option Addr} {cap : Nat} {w : World} {Q : Nat → Prop} (h : FlatIn w Q 5 (fun e => e.1.cells e.2) l p cap) (hl : l.length ≤ 1000000)
    (hcall : ∀ (W : World) (x : (DistD × DLoc)), Calls Tryz.prog g #[.agg #[.string x.1.n, .slice x.2.pr x.1.r.length x.2.cr, .int .i64 x.1.t, .slice x.2.pc x.1.cs.length x.2.cc, .int .i64 x.1.x]] W fun e w' => e = .returned (.string x.1.n) ∧ Below W.heap.size W w') (hsz : ∀ x ∈ l, x.1.n.size ≤ maxLen) :
    Calls Tryz.prog 63 #[.slice p l.length cap, .func (Fn.func g) #[] #[]] w fun e w' => e = .returned (.bool (namesOk (l.map fun x => x.1.n.data.toList))) ∧ Below w.heap.size w w' := by
  have HC := Lib.hid (counts_dist g eg h hl hcall hsz)
  clear h hcall hsz
  generalize (l.map fun x => x.1.n.data.toList) = N at *
  obtain ⟨T, hT⟩ : ∃ T, namesOk N = T := ⟨_, rfl⟩
  have HT := Lib.hid hT
  rw [hT]
  clear hT
  go_enter Tryz.func63, Tryz.ntmps63
  go_wp2_with (first
    | (go_at_call 133; (with_reducible refine HC.out.mono ?_); rintro e w1 ⟨D, rfl, ho, hd, hb⟩; have HO := Lib.hid ho; have HD := Lib.hid hd; have HB := Lib.hid hb; clear ho hd hb)
    | (at_range; refine wpList_range_own _ rfl _ 189 rfl 9 3 lawS Tryz.underlying189 _ w.heap.size l.length D rfl HO.out ?_; intro w2 hrg0 hg0 hs0; have HR0 := Lib.hid hrg0; have HB2 : Hid (Below w.heap.size w w2) := Lib.hid (HB.out.grown hg0 HB.out.size (fun j hj => by cases hj)); clear hrg0 hg0 hs0))
  have HN : Hid (∀ W (x : ByteArray), Calls Tryz.prog 60 #[.string x] W fun e w' => e = .returned (.bool (nameE x.data.toList)) ∧ Below W.heap.size W w') := Lib.hid fun W x => by
    have := isName_any x.data.toList W
    rwa [S_eta] at this
  clear HC
  go_frame
  go_loopw [11] (fun _ wr => ∃ (left : Lit → Bool) (cnt : Nat), Hid (wr.ranges Tryz.prog 9 (plainElem (H := Unit) Tryz.prog 3) w.heap.size w1.heap.size l.length D left cnt) ∧ Hid (Seen D N left) ∧ Hid (Below w.heap.size w wr)) (fun _ wr => wr.rangeLeft w.heap.size w1.heap.size)
  case atStart => exact ⟨has D, size D, HR0, Lib.hid (Seen.start HD.out), HB2⟩
  case round =>
    obtain ⟨left, cnt, HR, HS, HBr⟩ := hrel
    clear HR0 HB2
    have HBm := Lib.hid (HR.out.owns.lt)
    go_wp2_with (at_next; refine wpList_next_ranges _ rfl _ rfl 9 lawS (plainElem (H := Unit) Tryz.prog 3) Value.string (Value.int .i64) (fun key kl hk => by obtain ⟨s, rfl, _⟩ := keyOf_S hk; exact ⟨s, rfl⟩) (fun v y hv => by obtain ⟨c, rfl, _⟩ := plainElem_int_inv Tryz.underlying3 hv; exact ⟨c, rfl⟩) w.heap.size w1.heap.size l.length D left cnt rfl HR.out ?_ ?_)
    · intro hc0 hl0
      have hT : T = true := by
        rw [← HT.out]
        exact namesOk_yes fun k hk => HS.out.ok k hk (hl0 _)
      subst hT
      clear hl0 hc0
      go_wp2_with fail
      go_ret
      exact ⟨rfl, HBr.out⟩
    · intro x cc kl ya yb w3 cnt3 hkey hlk hy hat hrg3 hlt hg3 hs3 hen
      obtain ⟨s, e1, rfl⟩ := keyOf_S hkey
      cases e1
      obtain ⟨c', e2, hy', -⟩ := plainElem_int_inv Tryz.underlying3 hy
      cases e2
      cases hy'
      have hcc : cc = (N.count x.data.toList : Nat) := by
        have h2 := HD.out.at' x.data.toList
        rw [hat] at h2
        simpa using h2
      have hmem : x.data.toList ∈ N := by
        have h2 := HS.out.sub _ hlk
        rw [HD.out.hs] at h2
        simpa using h2
      have HB3 : Hid (Below w.heap.size w w3) := Lib.hid (HBr.out.grown hg3 HBr.out.size (fun j hj => by cases hj; exact HB.out.size))
      have HNx := Lib.hid (HN.out w3 x)
      have HR3 := Lib.hid hrg3
      have HRl : Hid (w3.rangeLeft w.heap.size w1.heap.size < wr.rangeLeft w.heap.size w1.heap.size) := Lib.hid (by rw [hrg3.left_eq, HR.out.left_eq]; exact hlt)
      have HOK : Hid (N.count x.data.toList ≤ 1 ∧ nameE x.data.toList = true → T = T) := Lib.hid fun _ => rfl
      have HNo : Hid (¬(N.count x.data.toList ≤ 1 ∧ nameE x.data.toList = true) → T = false) := Lib.hid fun h => by rw [← HT.out]; exact namesOk_no hmem h
      have HSt := Lib.hid (HS.out.step x.data.toList)
      clear hkey hlk hy hat hrg3 hlt hg3 hs3 hmem HS HR HBr HD HOK HN
      by_cases h1 : cc ≤ 1
      · have h1' : ¬ (1 : Int) < cc := by omega
        have h1n : N.count x.data.toList ≤ 1 := by omega
        generalize hq : nameE x.data.toList = q at *
        cases q with
        | true =>
          have HS4 := Lib.hid (HSt.out ⟨h1n, rfl⟩)
          clear HSt HNo hq hcc h1n
          go_wp2_with (go_at_call 60; (with_reducible refine HNx.out.mono ?_); rintro e w4 ⟨rfl, hb⟩; have HB4 := Lib.hid (HB3.out.trans (hb.mono HB3.out.size)); have HR4 := Lib.hid (HR3.out.kept (gr_bel none hb) (by simp) (by simp)); clear hb)
          go_roundw
          case rel => exact ⟨_, cnt3, HR4, HS4, HB4⟩
          case measure =>
            rw [HR4.out.left_eq]
            have := HRl.out
            rw [HR3.out.left_eq] at this
            exact this
        | false =>
          have hT : T = false := HNo.out (by simp)
          subst hT
          clear HSt HNo hq hcc h1n
          go_wp2_with (go_at_call 60; (with_reducible refine HNx.out.mono ?_); rintro e w4 ⟨rfl, hb⟩; have HB4 := Lib.hid (HB3.out.trans (hb.mono HB3.out.size)); clear hb)
          go_ret
          exact ⟨rfl, HB4.out⟩
      · have h1' : (1 : Int) < cc := by omega
        have hT : T = false := HNo.out (by omega)
        subst hT
        clear HSt HNo hcc HNx
        go_wp2_with fail
        go_ret
        exact ⟨rfl, HB3.out⟩
set_option maxHeartbeats 4000000 in
theorem named_wave {l : List WaveD} (g : Nat) (eg : ∀ args w, (callFunc g args).run Tryz.prog w = .ok (.enter g args) w) {p : Option Addr} {cap : Nat} {w : World} {Q : Nat → Prop} (h : FlatIn w Q 2 WaveD.cells l p cap) (hl : l.length ≤ 1000000)
    (hcall : ∀ (W : World) (x : WaveD), Calls Tryz.prog g #[.agg #[.string x.n, .int .i64 x.g]] W fun e w' => e = .returned (.string x.n) ∧ Below W.heap.size W w') (hsz : ∀ x ∈ l, x.n.size ≤ maxLen) :
    Calls Tryz.prog 65 #[.slice p l.length cap, .func (Fn.func g) #[] #[]] w fun e w' => e = .returned (.bool (namesOk (l.map fun x => x.n.data.toList))) ∧ Below w.heap.size w w' := by
  have HC := Lib.hid (counts_wave g eg h hl hcall hsz)
  clear h hcall hsz
  generalize (l.map fun x => x.n.data.toList) = N at *
  obtain ⟨T, hT⟩ : ∃ T, namesOk N = T := ⟨_, rfl⟩
  have HT := Lib.hid hT
  rw [hT]
  clear hT
  go_enter Tryz.func65, Tryz.ntmps65
  go_wp2_with (first
    | (go_at_call 134; (with_reducible refine HC.out.mono ?_); rintro e w1 ⟨D, rfl, ho, hd, hb⟩; have HO := Lib.hid ho; have HD := Lib.hid hd; have HB := Lib.hid hb; clear ho hd hb)
    | (at_range; refine wpList_range_own _ rfl _ 189 rfl 9 3 lawS Tryz.underlying189 _ w.heap.size l.length D rfl HO.out ?_; intro w2 hrg0 hg0 hs0; have HR0 := Lib.hid hrg0; have HB2 : Hid (Below w.heap.size w w2) := Lib.hid (HB.out.grown hg0 HB.out.size (fun j hj => by cases hj)); clear hrg0 hg0 hs0))
  have HN : Hid (∀ W (x : ByteArray), Calls Tryz.prog 60 #[.string x] W fun e w' => e = .returned (.bool (nameE x.data.toList)) ∧ Below W.heap.size W w') := Lib.hid fun W x => by
    have := isName_any x.data.toList W
    rwa [S_eta] at this
  clear HC
  go_frame
  go_loopw [11] (fun _ wr => ∃ (left : Lit → Bool) (cnt : Nat), Hid (wr.ranges Tryz.prog 9 (plainElem (H := Unit) Tryz.prog 3) w.heap.size w1.heap.size l.length D left cnt) ∧ Hid (Seen D N left) ∧ Hid (Below w.heap.size w wr)) (fun _ wr => wr.rangeLeft w.heap.size w1.heap.size)
  case atStart => exact ⟨has D, size D, HR0, Lib.hid (Seen.start HD.out), HB2⟩
  case round =>
    obtain ⟨left, cnt, HR, HS, HBr⟩ := hrel
    clear HR0 HB2
    have HBm := Lib.hid (HR.out.owns.lt)
    go_wp2_with (at_next; refine wpList_next_ranges _ rfl _ rfl 9 lawS (plainElem (H := Unit) Tryz.prog 3) Value.string (Value.int .i64) (fun key kl hk => by obtain ⟨s, rfl, _⟩ := keyOf_S hk; exact ⟨s, rfl⟩) (fun v y hv => by obtain ⟨c, rfl, _⟩ := plainElem_int_inv Tryz.underlying3 hv; exact ⟨c, rfl⟩) w.heap.size w1.heap.size l.length D left cnt rfl HR.out ?_ ?_)
    · intro hc0 hl0
      have hT : T = true := by
        rw [← HT.out]
        exact namesOk_yes fun k hk => HS.out.ok k hk (hl0 _)
      subst hT
      clear hl0 hc0
      go_wp2_with fail
      go_ret
      exact ⟨rfl, HBr.out⟩
    · intro x cc kl ya yb w3 cnt3 hkey hlk hy hat hrg3 hlt hg3 hs3 hen
      obtain ⟨s, e1, rfl⟩ := keyOf_S hkey
      cases e1
      obtain ⟨c', e2, hy', -⟩ := plainElem_int_inv Tryz.underlying3 hy
      cases e2
      cases hy'
      have hcc : cc = (N.count x.data.toList : Nat) := by
        have h2 := HD.out.at' x.data.toList
        rw [hat] at h2
        simpa using h2
      have hmem : x.data.toList ∈ N := by
        have h2 := HS.out.sub _ hlk
        rw [HD.out.hs] at h2
        simpa using h2
      have HB3 : Hid (Below w.heap.size w w3) := Lib.hid (HBr.out.grown hg3 HBr.out.size (fun j hj => by cases hj; exact HB.out.size))
      have HNx := Lib.hid (HN.out w3 x)
      have HR3 := Lib.hid hrg3
      have HRl : Hid (w3.rangeLeft w.heap.size w1.heap.size < wr.rangeLeft w.heap.size w1.heap.size) := Lib.hid (by rw [hrg3.left_eq, HR.out.left_eq]; exact hlt)
      have HOK : Hid (N.count x.data.toList ≤ 1 ∧ nameE x.data.toList = true → T = T) := Lib.hid fun _ => rfl
      have HNo : Hid (¬(N.count x.data.toList ≤ 1 ∧ nameE x.data.toList = true) → T = false) := Lib.hid fun h => by rw [← HT.out]; exact namesOk_no hmem h
      have HSt := Lib.hid (HS.out.step x.data.toList)
      clear hkey hlk hy hat hrg3 hlt hg3 hs3 hmem HS HR HBr HD HOK HN
      by_cases h1 : cc ≤ 1
      · have h1' : ¬ (1 : Int) < cc := by omega
        have h1n : N.count x.data.toList ≤ 1 := by omega
        generalize hq : nameE x.data.toList = q at *
        cases q with
        | true =>
          have HS4 := Lib.hid (HSt.out ⟨h1n, rfl⟩)
          clear HSt HNo hq hcc h1n
          go_wp2_with (go_at_call 60; (with_reducible refine HNx.out.mono ?_); rintro e w4 ⟨rfl, hb⟩; have HB4 := Lib.hid (HB3.out.trans (hb.mono HB3.out.size)); have HR4 := Lib.hid (HR3.out.kept (gr_bel none hb) (by simp) (by simp)); clear hb)
          go_roundw
          case rel => exact ⟨_, cnt3, HR4, HS4, HB4⟩
          case measure =>
            rw [HR4.out.left_eq]
            have := HRl.out
            rw [HR3.out.left_eq] at this
            exact this
        | false =>
          have hT : T = false := HNo.out (by simp)
          subst hT
          clear HSt HNo hq hcc h1n
          go_wp2_with (go_at_call 60; (with_reducible refine HNx.out.mono ?_); rintro e w4 ⟨rfl, hb⟩; have HB4 := Lib.hid (HB3.out.trans (hb.mono HB3.out.size)); clear hb)
          go_ret
          exact ⟨rfl, HB4.out⟩
      · have h1' : (1 : Int) < cc := by omega
        have hT : T = false := HNo.out (by omega)
        subst hT
        clear HSt HNo hcc HNx
        go_wp2_with fail
        go_ret
        exact ⟨rfl, HB3.out⟩
set_option maxHeartbeats 4000000 in
theorem named_off {l : List OffD} (g : Nat) (eg : ∀ args w, (callFunc g args).run Tryz.prog w = .ok (.enter g args) w) {p : Option Addr} {cap : Nat} {w : World} {Q : Nat → Prop} (h : FlatIn w Q 4 OffD.cells l p cap) (hl : l.length ≤ 1000000)
    (hcall : ∀ (W : World) (x : OffD), Calls Tryz.prog g #[.agg #[.string x.n, .int .i64 x.t, .int .i64 x.l, .bool x.o]] W fun e w' => e = .returned (.string x.n) ∧ Below W.heap.size W w') (hsz : ∀ x ∈ l, x.n.size ≤ maxLen) :
    Calls Tryz.prog 67 #[.slice p l.length cap, .func (Fn.func g) #[] #[]] w fun e w' => e = .returned (.bool (namesOk (l.map fun x => x.n.data.toList))) ∧ Below w.heap.size w w' := by
  have HC := Lib.hid (counts_off g eg h hl hcall hsz)
  clear h hcall hsz
  generalize (l.map fun x => x.n.data.toList) = N at *
  obtain ⟨T, hT⟩ : ∃ T, namesOk N = T := ⟨_, rfl⟩
  have HT := Lib.hid hT
  rw [hT]
  clear hT
  go_enter Tryz.func67, Tryz.ntmps67
  go_wp2_with (first
    | (go_at_call 135; (with_reducible refine HC.out.mono ?_); rintro e w1 ⟨D, rfl, ho, hd, hb⟩; have HO := Lib.hid ho; have HD := Lib.hid hd; have HB := Lib.hid hb; clear ho hd hb)
    | (at_range; refine wpList_range_own _ rfl _ 189 rfl 9 3 lawS Tryz.underlying189 _ w.heap.size l.length D rfl HO.out ?_; intro w2 hrg0 hg0 hs0; have HR0 := Lib.hid hrg0; have HB2 : Hid (Below w.heap.size w w2) := Lib.hid (HB.out.grown hg0 HB.out.size (fun j hj => by cases hj)); clear hrg0 hg0 hs0))
  have HN : Hid (∀ W (x : ByteArray), Calls Tryz.prog 60 #[.string x] W fun e w' => e = .returned (.bool (nameE x.data.toList)) ∧ Below W.heap.size W w') := Lib.hid fun W x => by
    have := isName_any x.data.toList W
    rwa [S_eta] at this
  clear HC
  go_frame
  go_loopw [11] (fun _ wr => ∃ (left : Lit → Bool) (cnt : Nat), Hid (wr.ranges Tryz.prog 9 (plainElem (H := Unit) Tryz.prog 3) w.heap.size w1.heap.size l.length D left cnt) ∧ Hid (Seen D N left) ∧ Hid (Below w.heap.size w wr)) (fun _ wr => wr.rangeLeft w.heap.size w1.heap.size)
  case atStart => exact ⟨has D, size D, HR0, Lib.hid (Seen.start HD.out), HB2⟩
  case round =>
    obtain ⟨left, cnt, HR, HS, HBr⟩ := hrel
    clear HR0 HB2
    have HBm := Lib.hid (HR.out.owns.lt)
    go_wp2_with (at_next; refine wpList_next_ranges _ rfl _ rfl 9 lawS (plainElem (H := Unit) Tryz.prog 3) Value.string (Value.int .i64) (fun key kl hk => by obtain ⟨s, rfl, _⟩ := keyOf_S hk; exact ⟨s, rfl⟩) (fun v y hv => by obtain ⟨c, rfl, _⟩ := plainElem_int_inv Tryz.underlying3 hv; exact ⟨c, rfl⟩) w.heap.size w1.heap.size l.length D left cnt rfl HR.out ?_ ?_)
    · intro hc0 hl0
      have hT : T = true := by
        rw [← HT.out]
        exact namesOk_yes fun k hk => HS.out.ok k hk (hl0 _)
      subst hT
      clear hl0 hc0
      go_wp2_with fail
      go_ret
      exact ⟨rfl, HBr.out⟩
    · intro x cc kl ya yb w3 cnt3 hkey hlk hy hat hrg3 hlt hg3 hs3 hen
      obtain ⟨s, e1, rfl⟩ := keyOf_S hkey
      cases e1
      obtain ⟨c', e2, hy', -⟩ := plainElem_int_inv Tryz.underlying3 hy
      cases e2
      cases hy'
      have hcc : cc = (N.count x.data.toList : Nat) := by
        have h2 := HD.out.at' x.data.toList
        rw [hat] at h2
        simpa using h2
      have hmem : x.data.toList ∈ N := by
        have h2 := HS.out.sub _ hlk
        rw [HD.out.hs] at h2
        simpa using h2
      have HB3 : Hid (Below w.heap.size w w3) := Lib.hid (HBr.out.grown hg3 HBr.out.size (fun j hj => by cases hj; exact HB.out.size))
      have HNx := Lib.hid (HN.out w3 x)
      have HR3 := Lib.hid hrg3
      have HRl : Hid (w3.rangeLeft w.heap.size w1.heap.size < wr.rangeLeft w.heap.size w1.heap.size) := Lib.hid (by rw [hrg3.left_eq, HR.out.left_eq]; exact hlt)
      have HOK : Hid (N.count x.data.toList ≤ 1 ∧ nameE x.data.toList = true → T = T) := Lib.hid fun _ => rfl
      have HNo : Hid (¬(N.count x.data.toList ≤ 1 ∧ nameE x.data.toList = true) → T = false) := Lib.hid fun h => by rw [← HT.out]; exact namesOk_no hmem h
      have HSt := Lib.hid (HS.out.step x.data.toList)
      clear hkey hlk hy hat hrg3 hlt hg3 hs3 hmem HS HR HBr HD HOK HN
      by_cases h1 : cc ≤ 1
      · have h1' : ¬ (1 : Int) < cc := by omega
        have h1n : N.count x.data.toList ≤ 1 := by omega
        generalize hq : nameE x.data.toList = q at *
        cases q with
        | true =>
          have HS4 := Lib.hid (HSt.out ⟨h1n, rfl⟩)
          clear HSt HNo hq hcc h1n
          go_wp2_with (go_at_call 60; (with_reducible refine HNx.out.mono ?_); rintro e w4 ⟨rfl, hb⟩; have HB4 := Lib.hid (HB3.out.trans (hb.mono HB3.out.size)); have HR4 := Lib.hid (HR3.out.kept (gr_bel none hb) (by simp) (by simp)); clear hb)
          go_roundw
          case rel => exact ⟨_, cnt3, HR4, HS4, HB4⟩
          case measure =>
            rw [HR4.out.left_eq]
            have := HRl.out
            rw [HR3.out.left_eq] at this
            exact this
        | false =>
          have hT : T = false := HNo.out (by simp)
          subst hT
          clear HSt HNo hq hcc h1n
          go_wp2_with (go_at_call 60; (with_reducible refine HNx.out.mono ?_); rintro e w4 ⟨rfl, hb⟩; have HB4 := Lib.hid (HB3.out.trans (hb.mono HB3.out.size)); clear hb)
          go_ret
          exact ⟨rfl, HB4.out⟩
      · have h1' : (1 : Int) < cc := by omega
        have hT : T = false := HNo.out (by omega)
        subst hT
        clear HSt HNo hcc HNx
        go_wp2_with fail
        go_ret
        exact ⟨rfl, HB3.out⟩
set_option maxHeartbeats 4000000 in
theorem named_cat {l : List CatD} (g : Nat) (eg : ∀ args w, (callFunc g args).run Tryz.prog w = .ok (.enter g args) w) {p : Option Addr} {cap : Nat} {w : World} {Q : Nat → Prop} (h : FlatIn w Q 3 CatD.cells l p cap) (hl : l.length ≤ 1000000)
    (hcall : ∀ (W : World) (x : CatD), Calls Tryz.prog g #[.agg #[.string x.n, .int .i64 x.f, .int .i64 x.t]] W fun e w' => e = .returned (.string x.n) ∧ Below W.heap.size W w') (hsz : ∀ x ∈ l, x.n.size ≤ maxLen) :
    Calls Tryz.prog 69 #[.slice p l.length cap, .func (Fn.func g) #[] #[]] w fun e w' => e = .returned (.bool (namesOk (l.map fun x => x.n.data.toList))) ∧ Below w.heap.size w w' := by
  have HC := Lib.hid (counts_cat g eg h hl hcall hsz)
  clear h hcall hsz
  generalize (l.map fun x => x.n.data.toList) = N at *
  obtain ⟨T, hT⟩ : ∃ T, namesOk N = T := ⟨_, rfl⟩
  have HT := Lib.hid hT
  rw [hT]
  clear hT
  go_enter Tryz.func69, Tryz.ntmps69
  go_wp2_with (first
    | (go_at_call 136; (with_reducible refine HC.out.mono ?_); rintro e w1 ⟨D, rfl, ho, hd, hb⟩; have HO := Lib.hid ho; have HD := Lib.hid hd; have HB := Lib.hid hb; clear ho hd hb)
    | (at_range; refine wpList_range_own _ rfl _ 189 rfl 9 3 lawS Tryz.underlying189 _ w.heap.size l.length D rfl HO.out ?_; intro w2 hrg0 hg0 hs0; have HR0 := Lib.hid hrg0; have HB2 : Hid (Below w.heap.size w w2) := Lib.hid (HB.out.grown hg0 HB.out.size (fun j hj => by cases hj)); clear hrg0 hg0 hs0))
  have HN : Hid (∀ W (x : ByteArray), Calls Tryz.prog 60 #[.string x] W fun e w' => e = .returned (.bool (nameE x.data.toList)) ∧ Below W.heap.size W w') := Lib.hid fun W x => by
    have := isName_any x.data.toList W
    rwa [S_eta] at this
  clear HC
  go_frame
  go_loopw [11] (fun _ wr => ∃ (left : Lit → Bool) (cnt : Nat), Hid (wr.ranges Tryz.prog 9 (plainElem (H := Unit) Tryz.prog 3) w.heap.size w1.heap.size l.length D left cnt) ∧ Hid (Seen D N left) ∧ Hid (Below w.heap.size w wr)) (fun _ wr => wr.rangeLeft w.heap.size w1.heap.size)
  case atStart => exact ⟨has D, size D, HR0, Lib.hid (Seen.start HD.out), HB2⟩
  case round =>
    obtain ⟨left, cnt, HR, HS, HBr⟩ := hrel
    clear HR0 HB2
    have HBm := Lib.hid (HR.out.owns.lt)
    go_wp2_with (at_next; refine wpList_next_ranges _ rfl _ rfl 9 lawS (plainElem (H := Unit) Tryz.prog 3) Value.string (Value.int .i64) (fun key kl hk => by obtain ⟨s, rfl, _⟩ := keyOf_S hk; exact ⟨s, rfl⟩) (fun v y hv => by obtain ⟨c, rfl, _⟩ := plainElem_int_inv Tryz.underlying3 hv; exact ⟨c, rfl⟩) w.heap.size w1.heap.size l.length D left cnt rfl HR.out ?_ ?_)
    · intro hc0 hl0
      have hT : T = true := by
        rw [← HT.out]
        exact namesOk_yes fun k hk => HS.out.ok k hk (hl0 _)
      subst hT
      clear hl0 hc0
      go_wp2_with fail
      go_ret
      exact ⟨rfl, HBr.out⟩
    · intro x cc kl ya yb w3 cnt3 hkey hlk hy hat hrg3 hlt hg3 hs3 hen
      obtain ⟨s, e1, rfl⟩ := keyOf_S hkey
      cases e1
      obtain ⟨c', e2, hy', -⟩ := plainElem_int_inv Tryz.underlying3 hy
      cases e2
      cases hy'
      have hcc : cc = (N.count x.data.toList : Nat) := by
        have h2 := HD.out.at' x.data.toList
        rw [hat] at h2
        simpa using h2
      have hmem : x.data.toList ∈ N := by
        have h2 := HS.out.sub _ hlk
        rw [HD.out.hs] at h2
        simpa using h2
      have HB3 : Hid (Below w.heap.size w w3) := Lib.hid (HBr.out.grown hg3 HBr.out.size (fun j hj => by cases hj; exact HB.out.size))
      have HNx := Lib.hid (HN.out w3 x)
      have HR3 := Lib.hid hrg3
      have HRl : Hid (w3.rangeLeft w.heap.size w1.heap.size < wr.rangeLeft w.heap.size w1.heap.size) := Lib.hid (by rw [hrg3.left_eq, HR.out.left_eq]; exact hlt)
      have HOK : Hid (N.count x.data.toList ≤ 1 ∧ nameE x.data.toList = true → T = T) := Lib.hid fun _ => rfl
      have HNo : Hid (¬(N.count x.data.toList ≤ 1 ∧ nameE x.data.toList = true) → T = false) := Lib.hid fun h => by rw [← HT.out]; exact namesOk_no hmem h
      have HSt := Lib.hid (HS.out.step x.data.toList)
      clear hkey hlk hy hat hrg3 hlt hg3 hs3 hmem HS HR HBr HD HOK HN
      by_cases h1 : cc ≤ 1
      · have h1' : ¬ (1 : Int) < cc := by omega
        have h1n : N.count x.data.toList ≤ 1 := by omega
        generalize hq : nameE x.data.toList = q at *
        cases q with
        | true =>
          have HS4 := Lib.hid (HSt.out ⟨h1n, rfl⟩)
          clear HSt HNo hq hcc h1n
          go_wp2_with (go_at_call 60; (with_reducible refine HNx.out.mono ?_); rintro e w4 ⟨rfl, hb⟩; have HB4 := Lib.hid (HB3.out.trans (hb.mono HB3.out.size)); have HR4 := Lib.hid (HR3.out.kept (gr_bel none hb) (by simp) (by simp)); clear hb)
          go_roundw
          case rel => exact ⟨_, cnt3, HR4, HS4, HB4⟩
          case measure =>
            rw [HR4.out.left_eq]
            have := HRl.out
            rw [HR3.out.left_eq] at this
            exact this
        | false =>
          have hT : T = false := HNo.out (by simp)
          subst hT
          clear HSt HNo hq hcc h1n
          go_wp2_with (go_at_call 60; (with_reducible refine HNx.out.mono ?_); rintro e w4 ⟨rfl, hb⟩; have HB4 := Lib.hid (HB3.out.trans (hb.mono HB3.out.size)); clear hb)
          go_ret
          exact ⟨rfl, HB4.out⟩
      · have h1' : (1 : Int) < cc := by omega
        have hT : T = false := HNo.out (by omega)
        subst hT
        clear HSt HNo hcc HNx
        go_wp2_with fail
        go_ret
        exact ⟨rfl, HB3.out⟩
end Go.Proofs.YtabdgnigmlpeaaaGreatDoor
/- The names of a course. -/
namespace Go.Proofs.YtabdgnigmlpeaaaGreatDoor
open Go.RowKit

theorem nm_mat (x : MatD) (w : World) : Calls Tryz.prog 62 #[.agg #[.string x.n, .int .i64 x.k]] w fun e w' => e = .returned (.string x.n) ∧ Below w.heap.size w w' := by
  have HA := Lib.hid ((Below.refl w.heap.size w).alloc (Nat.le_refl _) (.cells #[.string x.n, .int .i64 x.k] 70))
  go_enter Tryz.func62, Tryz.ntmps62
  go_wp2_with fail
  go_ret
  exact ⟨rfl, HA.out⟩
theorem nm_dist (x : (DistD × DLoc)) (w : World) : Calls Tryz.prog 64 #[.agg #[.string x.1.n, .slice x.2.pr x.1.r.length x.2.cr, .int .i64 x.1.t, .slice x.2.pc x.1.cs.length x.2.cc, .int .i64 x.1.x]] w fun e w' => e = .returned (.string x.1.n) ∧ Below w.heap.size w w' := by
  have HA := Lib.hid ((Below.refl w.heap.size w).alloc (Nat.le_refl _) (.cells #[.string x.1.n, .slice x.2.pr x.1.r.length x.2.cr, .int .i64 x.1.t, .slice x.2.pc x.1.cs.length x.2.cc, .int .i64 x.1.x] 66))
  go_enter Tryz.func64, Tryz.ntmps64
  go_wp2_with fail
  go_ret
  exact ⟨rfl, HA.out⟩
theorem nm_wave (x : WaveD) (w : World) : Calls Tryz.prog 66 #[.agg #[.string x.n, .int .i64 x.g]] w fun e w' => e = .returned (.string x.n) ∧ Below w.heap.size w w' := by
  have HA := Lib.hid ((Below.refl w.heap.size w).alloc (Nat.le_refl _) (.cells #[.string x.n, .int .i64 x.g] 81))
  go_enter Tryz.func66, Tryz.ntmps66
  go_wp2_with fail
  go_ret
  exact ⟨rfl, HA.out⟩
theorem nm_off (x : OffD) (w : World) : Calls Tryz.prog 68 #[.agg #[.string x.n, .int .i64 x.t, .int .i64 x.l, .bool x.o]] w fun e w' => e = .returned (.string x.n) ∧ Below w.heap.size w w' := by
  have HA := Lib.hid ((Below.refl w.heap.size w).alloc (Nat.le_refl _) (.cells #[.string x.n, .int .i64 x.t, .int .i64 x.l, .bool x.o] 79))
  go_enter Tryz.func68, Tryz.ntmps68
  go_wp2_with fail
  go_ret
  exact ⟨rfl, HA.out⟩
theorem nm_cat (x : CatD) (w : World) : Calls Tryz.prog 70 #[.agg #[.string x.n, .int .i64 x.f, .int .i64 x.t]] w fun e w' => e = .returned (.string x.n) ∧ Below w.heap.size w w' := by
  have HA := Lib.hid ((Below.refl w.heap.size w).alloc (Nat.le_refl _) (.cells #[.string x.n, .int .i64 x.f, .int .i64 x.t] 121))
  go_enter Tryz.func70, Tryz.ntmps70
  go_wp2_with fail
  go_ret
  exact ⟨rfl, HA.out⟩
/-- The texts of a course are no longer than any text. -/
structure CourseSz (c : Crs) : Prop where
  mats : ∀ x ∈ c.mats, x.n.size ≤ maxLen
  dists : ∀ x ∈ c.dists, x.n.size ≤ maxLen
  waves : ∀ x ∈ c.waves, x.n.size ≤ maxLen
  offs : ∀ x ∈ c.offs, x.n.size ≤ maxLen
  cats : ∀ x ∈ c.cats, x.n.size ≤ maxLen
def namesE (c : Crs) : Bool := nameE c.n.data.toList && (namesOk (c.mats.map fun x => x.n.data.toList) && (namesOk (c.dists.map fun x => x.n.data.toList) && (namesOk (c.waves.map fun x => x.n.data.toList) && (namesOk (c.offs.map fun x => x.n.data.toList) && namesOk (c.cats.map fun x => x.n.data.toList)))))
set_option maxHeartbeats 8000000 in
theorem named_course {w : World} {Q : Nat → Prop} {c : Crs} {x : CLoc} (h : CourseIn w Q c x) (hz : CourseSz c) (hl : limE c = true) :
    Calls Tryz.prog 38 #[courseV c x] w fun e w' => e = .returned (.bool (namesE c)) ∧ Below w.heap.size w w' := by
  unfold limE at hl
  simp only [Bool.and_eq_true, decide_eq_true_eq] at hl
  obtain ⟨l1, l2, l3, l4, l5, l6, l7, -⟩ := hl
  have hA := (Below.refl w.heap.size w).alloc (Nat.le_refl _) (.cells (cellsC c x).toArray 33)
  have HA := Lib.hid hA
  have N0 : Hid (∀ W, Calls Tryz.prog 60 #[.string c.n] W fun e w' => e = .returned (.bool (nameE c.n.data.toList)) ∧ Below W.heap.size W w') := Lib.hid fun W => by
    have := isName_any c.n.data.toList W
    rwa [S_eta] at this
  have N1 : Hid (∀ W, Below w.heap.size w W → Calls Tryz.prog 61 #[.slice x.pm c.mats.length x.cm, .func (Fn.func 62) #[] #[]] W fun e w' => e = .returned (.bool (namesOk (c.mats.map fun x => x.n.data.toList))) ∧ Below W.heap.size W w') := Lib.hid fun W hW => named_mat _ (enters_of Tryz.func62 (by kernel_rfl) rfl) (h.mats.bel hW) (by omega) (fun W x => nm_mat x W) hz.mats
  have N2 : Hid (∀ W, Below w.heap.size w W → Calls Tryz.prog 63 #[.slice x.pd c.dists.length x.cd, .func (Fn.func 64) #[] #[]] W fun e w' => e = .returned (.bool (namesOk (c.dists.map fun x => x.n.data.toList))) ∧ Below W.heap.size W w') := Lib.hid fun W hW => by
    obtain ⟨es, he, hf, -⟩ := h.dists
    have hz2 := hz.dists
    rw [← he] at hz2 l3 ⊢
    rw [List.length_map] at l3 ⊢
    have := named_dist 64 (enters_of Tryz.func64 (by kernel_rfl) rfl) (hf.bel hW) (by omega) (fun W x => nm_dist x W) (fun x hx => hz2 x.1 (List.mem_map.2 ⟨x, hx, rfl⟩))
    rw [List.map_map]
    exact this
  have N3 : Hid (∀ W, Below w.heap.size w W → Calls Tryz.prog 65 #[.slice x.pw c.waves.length x.cw, .func (Fn.func 66) #[] #[]] W fun e w' => e = .returned (.bool (namesOk (c.waves.map fun x => x.n.data.toList))) ∧ Below W.heap.size W w') := Lib.hid fun W hW => named_wave _ (enters_of Tryz.func66 (by kernel_rfl) rfl) (h.waves.bel hW) (by omega) (fun W x => nm_wave x W) hz.waves
  have N4 : Hid (∀ W, Below w.heap.size w W → Calls Tryz.prog 67 #[.slice x.po c.offs.length x.co, .func (Fn.func 68) #[] #[]] W fun e w' => e = .returned (.bool (namesOk (c.offs.map fun x => x.n.data.toList))) ∧ Below W.heap.size W w') := Lib.hid fun W hW => named_off _ (enters_of Tryz.func68 (by kernel_rfl) rfl) (h.offs.bel hW) (by omega) (fun W x => nm_off x W) hz.offs
  have N5 : Hid (∀ W, Below w.heap.size w W → Calls Tryz.prog 69 #[.slice x.pc c.cats.length x.cc, .func (Fn.func 70) #[] #[]] W fun e w' => e = .returned (.bool (namesOk (c.cats.map fun x => x.n.data.toList))) ∧ Below W.heap.size W w') := Lib.hid fun W hW => named_cat _ (enters_of Tryz.func70 (by kernel_rfl) rfl) (h.cats.bel hW) (by omega) (fun W x => nm_cat x W) hz.cats
  unfold namesE courseV
  unfold cellsC at *
  have HX : Hid (∀ V, V = w.alloc (.cells #[.string c.n, .slice x.pm c.mats.length x.cm, .slice x.pl c.legs.length x.cl, .slice x.pd c.dists.length x.cd, .slice x.pw c.waves.length x.cw, .slice x.po c.offs.length x.co, .slice x.pc c.cats.length x.cc, .slice x.pz c.prizes.length x.cz, .slice x.pt c.ties.length x.ct, .int .i64 c.fm, .int .i64 c.fs, .int .i64 c.fw, .int .i64 c.fr, .int .i64 c.fd, .int .i64 c.fee, .int .i64 c.dl] 33) → ∀ w', Below V.heap.size V w' → w'.cell? ⟨w.heap.size, 1, none⟩ = some (.slice x.pm c.mats.length x.cm) ∧ w'.cell? ⟨w.heap.size, 3, none⟩ = some (.slice x.pd c.dists.length x.cd) ∧ w'.cell? ⟨w.heap.size, 4, none⟩ = some (.slice x.pw c.waves.length x.cw) ∧ w'.cell? ⟨w.heap.size, 5, none⟩ = some (.slice x.po c.offs.length x.co) ∧ w'.cell? ⟨w.heap.size, 6, none⟩ = some (.slice x.pc c.cats.length x.cc)) := Lib.hid fun V e w' hb => by
    subst e
    exact ⟨keepc hb (by simp [go_sem]), keepc hb (by simp [go_sem]), keepc hb (by simp [go_sem]), keepc hb (by simp [go_sem]), keepc hb (by simp [go_sem])⟩
  clear h hz hA l1 l2 l3 l4 l5 l6 l7
  generalize nameE c.n.data.toList = q0 at *
  generalize namesOk (c.mats.map fun x => x.n.data.toList) = q1 at *
  generalize namesOk (c.dists.map fun x => x.n.data.toList) = q2 at *
  generalize namesOk (c.waves.map fun x => x.n.data.toList) = q3 at *
  generalize namesOk (c.offs.map fun x => x.n.data.toList) = q4 at *
  generalize namesOk (c.cats.map fun x => x.n.data.toList) = q5 at *

  cases q0 with
  | false =>
    go_enter Tryz.func38, Tryz.ntmps38
    go_wp2_with (first
      | (go_at_call 60; (with_reducible refine (N0.out _).mono ?_); rintro e w0 ⟨rfl, hb⟩; have hv0 := hb; obtain ⟨z0_1, z0_2, z0_3, z0_4, z0_5⟩ := HX.out _ rfl w0 hv0; have HB0 := Lib.hid (HA.out.trans (hb.mono HA.out.size)); clear hb))
    go_ret
    exact ⟨by simp, HB0.out⟩
  | true =>
    cases q1 with
    | false =>
      go_enter Tryz.func38, Tryz.ntmps38
      go_wp2_with (first
        | (go_at_call 60; (with_reducible refine (N0.out _).mono ?_); rintro e w0 ⟨rfl, hb⟩; have hv0 := hb; obtain ⟨z0_1, z0_2, z0_3, z0_4, z0_5⟩ := HX.out _ rfl w0 hv0; have HB0 := Lib.hid (HA.out.trans (hb.mono HA.out.size)); clear hb)
        | (go_at_call 61; (with_reducible refine (N1.out _ HB0.out).mono ?_); rintro e w1 ⟨rfl, hb⟩; have hv1 := hv0.trans (hb.mono hv0.size); obtain ⟨z1_1, z1_2, z1_3, z1_4, z1_5⟩ := HX.out _ rfl w1 hv1; have HB1 := Lib.hid (HB0.out.trans (hb.mono HB0.out.size)); clear hb))
      go_ret
      exact ⟨by simp, HB1.out⟩
    | true =>
      cases q2 with
      | false =>
        go_enter Tryz.func38, Tryz.ntmps38
        go_wp2_with (first
          | (go_at_call 60; (with_reducible refine (N0.out _).mono ?_); rintro e w0 ⟨rfl, hb⟩; have hv0 := hb; obtain ⟨z0_1, z0_2, z0_3, z0_4, z0_5⟩ := HX.out _ rfl w0 hv0; have HB0 := Lib.hid (HA.out.trans (hb.mono HA.out.size)); clear hb)
          | (go_at_call 61; (with_reducible refine (N1.out _ HB0.out).mono ?_); rintro e w1 ⟨rfl, hb⟩; have hv1 := hv0.trans (hb.mono hv0.size); obtain ⟨z1_1, z1_2, z1_3, z1_4, z1_5⟩ := HX.out _ rfl w1 hv1; have HB1 := Lib.hid (HB0.out.trans (hb.mono HB0.out.size)); clear hb)
          | (go_at_call 63; (with_reducible refine (N2.out _ HB1.out).mono ?_); rintro e w2 ⟨rfl, hb⟩; have hv2 := hv1.trans (hb.mono hv1.size); obtain ⟨z2_1, z2_2, z2_3, z2_4, z2_5⟩ := HX.out _ rfl w2 hv2; have HB2 := Lib.hid (HB1.out.trans (hb.mono HB1.out.size)); clear hb))
        go_ret
        exact ⟨by simp, HB2.out⟩
      | true =>
        cases q3 with
        | false =>
          go_enter Tryz.func38, Tryz.ntmps38
          go_wp2_with (first
            | (go_at_call 60; (with_reducible refine (N0.out _).mono ?_); rintro e w0 ⟨rfl, hb⟩; have hv0 := hb; obtain ⟨z0_1, z0_2, z0_3, z0_4, z0_5⟩ := HX.out _ rfl w0 hv0; have HB0 := Lib.hid (HA.out.trans (hb.mono HA.out.size)); clear hb)
            | (go_at_call 61; (with_reducible refine (N1.out _ HB0.out).mono ?_); rintro e w1 ⟨rfl, hb⟩; have hv1 := hv0.trans (hb.mono hv0.size); obtain ⟨z1_1, z1_2, z1_3, z1_4, z1_5⟩ := HX.out _ rfl w1 hv1; have HB1 := Lib.hid (HB0.out.trans (hb.mono HB0.out.size)); clear hb)
            | (go_at_call 63; (with_reducible refine (N2.out _ HB1.out).mono ?_); rintro e w2 ⟨rfl, hb⟩; have hv2 := hv1.trans (hb.mono hv1.size); obtain ⟨z2_1, z2_2, z2_3, z2_4, z2_5⟩ := HX.out _ rfl w2 hv2; have HB2 := Lib.hid (HB1.out.trans (hb.mono HB1.out.size)); clear hb)
            | (go_at_call 65; (with_reducible refine (N3.out _ HB2.out).mono ?_); rintro e w3 ⟨rfl, hb⟩; have hv3 := hv2.trans (hb.mono hv2.size); obtain ⟨z3_1, z3_2, z3_3, z3_4, z3_5⟩ := HX.out _ rfl w3 hv3; have HB3 := Lib.hid (HB2.out.trans (hb.mono HB2.out.size)); clear hb))
          go_ret
          exact ⟨by simp, HB3.out⟩
        | true =>
          cases q4 with
          | false =>
            go_enter Tryz.func38, Tryz.ntmps38
            go_wp2_with (first
              | (go_at_call 60; (with_reducible refine (N0.out _).mono ?_); rintro e w0 ⟨rfl, hb⟩; have hv0 := hb; obtain ⟨z0_1, z0_2, z0_3, z0_4, z0_5⟩ := HX.out _ rfl w0 hv0; have HB0 := Lib.hid (HA.out.trans (hb.mono HA.out.size)); clear hb)
              | (go_at_call 61; (with_reducible refine (N1.out _ HB0.out).mono ?_); rintro e w1 ⟨rfl, hb⟩; have hv1 := hv0.trans (hb.mono hv0.size); obtain ⟨z1_1, z1_2, z1_3, z1_4, z1_5⟩ := HX.out _ rfl w1 hv1; have HB1 := Lib.hid (HB0.out.trans (hb.mono HB0.out.size)); clear hb)
              | (go_at_call 63; (with_reducible refine (N2.out _ HB1.out).mono ?_); rintro e w2 ⟨rfl, hb⟩; have hv2 := hv1.trans (hb.mono hv1.size); obtain ⟨z2_1, z2_2, z2_3, z2_4, z2_5⟩ := HX.out _ rfl w2 hv2; have HB2 := Lib.hid (HB1.out.trans (hb.mono HB1.out.size)); clear hb)
              | (go_at_call 65; (with_reducible refine (N3.out _ HB2.out).mono ?_); rintro e w3 ⟨rfl, hb⟩; have hv3 := hv2.trans (hb.mono hv2.size); obtain ⟨z3_1, z3_2, z3_3, z3_4, z3_5⟩ := HX.out _ rfl w3 hv3; have HB3 := Lib.hid (HB2.out.trans (hb.mono HB2.out.size)); clear hb)
              | (go_at_call 67; (with_reducible refine (N4.out _ HB3.out).mono ?_); rintro e w4 ⟨rfl, hb⟩; have hv4 := hv3.trans (hb.mono hv3.size); obtain ⟨z4_1, z4_2, z4_3, z4_4, z4_5⟩ := HX.out _ rfl w4 hv4; have HB4 := Lib.hid (HB3.out.trans (hb.mono HB3.out.size)); clear hb))
            go_ret
            exact ⟨by simp, HB4.out⟩
          | true =>
            go_enter Tryz.func38, Tryz.ntmps38
            go_wp2_with (first
              | (go_at_call 60; (with_reducible refine (N0.out _).mono ?_); rintro e w0 ⟨rfl, hb⟩; have hv0 := hb; obtain ⟨z0_1, z0_2, z0_3, z0_4, z0_5⟩ := HX.out _ rfl w0 hv0; have HB0 := Lib.hid (HA.out.trans (hb.mono HA.out.size)); clear hb)
              | (go_at_call 61; (with_reducible refine (N1.out _ HB0.out).mono ?_); rintro e w1 ⟨rfl, hb⟩; have hv1 := hv0.trans (hb.mono hv0.size); obtain ⟨z1_1, z1_2, z1_3, z1_4, z1_5⟩ := HX.out _ rfl w1 hv1; have HB1 := Lib.hid (HB0.out.trans (hb.mono HB0.out.size)); clear hb)
              | (go_at_call 63; (with_reducible refine (N2.out _ HB1.out).mono ?_); rintro e w2 ⟨rfl, hb⟩; have hv2 := hv1.trans (hb.mono hv1.size); obtain ⟨z2_1, z2_2, z2_3, z2_4, z2_5⟩ := HX.out _ rfl w2 hv2; have HB2 := Lib.hid (HB1.out.trans (hb.mono HB1.out.size)); clear hb)
              | (go_at_call 65; (with_reducible refine (N3.out _ HB2.out).mono ?_); rintro e w3 ⟨rfl, hb⟩; have hv3 := hv2.trans (hb.mono hv2.size); obtain ⟨z3_1, z3_2, z3_3, z3_4, z3_5⟩ := HX.out _ rfl w3 hv3; have HB3 := Lib.hid (HB2.out.trans (hb.mono HB2.out.size)); clear hb)
              | (go_at_call 67; (with_reducible refine (N4.out _ HB3.out).mono ?_); rintro e w4 ⟨rfl, hb⟩; have hv4 := hv3.trans (hb.mono hv3.size); obtain ⟨z4_1, z4_2, z4_3, z4_4, z4_5⟩ := HX.out _ rfl w4 hv4; have HB4 := Lib.hid (HB3.out.trans (hb.mono HB3.out.size)); clear hb)
              | (go_at_call 69; (with_reducible refine (N5.out _ HB4.out).mono ?_); rintro e w5 ⟨rfl, hb⟩; have hv5 := hv4.trans (hb.mono hv4.size); obtain ⟨z5_1, z5_2, z5_3, z5_4, z5_5⟩ := HX.out _ rfl w5 hv5; have HB5 := Lib.hid (HB4.out.trans (hb.mono HB4.out.size)); clear hb))
            go_ret
            exact ⟨by simp, HB5.out⟩
end Go.Proofs.YtabdgnigmlpeaaaGreatDoor
/- The specification's Keyword. -/
namespace Go.Proofs.YtabdgnigmlpeaaaGreatDoor
open Go.RowKit

theorem beq_toList (l k : Bs) : ((S l).toList == k) = decide (l = k) := by
  rw [S_toList]
  by_cases h : l = k
  · subst h; simp
  · rw [decide_eq_false h, beq_eq_false_iff_ne]; exact h
set_option maxHeartbeats 40000000 in
set_option maxRecDepth 100000 in
theorem rkeyword_any (l : Bs) (w : World) : Calls Tryz.prog 162 #[.string (S l)] w fun e w' => e = .returned (.bool (keywords.contains l)) ∧ w' = w := by
  by_cases hm : l ∈ keywords
  · rw [List.contains_iff_mem.2 hm]
    unfold keywords at hm
    simp only [List.mem_cons, List.not_mem_nil, or_false] at hm
    rcases hm with rfl | rfl | rfl | rfl | rfl | rfl | rfl | rfl | rfl | rfl | rfl | rfl | rfl | rfl | rfl | rfl | rfl | rfl | rfl | rfl | rfl | rfl | rfl | rfl | rfl | rfl | rfl | rfl | rfl | rfl | rfl | rfl | rfl | rfl | rfl | rfl | rfl | rfl | rfl | rfl | rfl | rfl
    all_goals
      have hc := beq_toList
      go_enter Tryz.func162, Tryz.ntmps162
      go_wp2_with fail
      go_ret
      exact ⟨rfl, rfl⟩
  · have hk : keywords.contains l = false := by
      cases h : keywords.contains l with
      | false => rfl
      | true => exact absurd (List.contains_iff_mem.1 h) hm
    rw [hk]
    have hn := fun k (h : k ∈ keywords) => (beq_toList l k).trans (decide_eq_false (fun e => hm (e ▸ h)))
    unfold keywords at hn
    simp only [List.mem_cons, List.not_mem_nil, or_false, forall_eq_or_imp, forall_eq] at hn
    obtain ⟨h1, h2, h3, h4, h5, h6, h7, h8, h9, h10, h11, h12, h13, h14, h15, h16, h17, h18, h19, h20, h21, h22, h23, h24, h25, h26, h27, h28, h29, h30, h31, h32, h33, h34, h35, h36, h37, h38, h39, h40, h41, h42⟩ := hn
    clear hm hk
    go_enter Tryz.func162, Tryz.ntmps162
    go_wp2_with fail
    go_ret
    exact ⟨rfl, rfl⟩
end Go.Proofs.YtabdgnigmlpeaaaGreatDoor
/- The specification: names. -/
namespace Go.Proofs.YtabdgnigmlpeaaaGreatDoor
open Go.RowKit

theorem S_get (l : Bs) (j : Nat) (h : j < (S l).size) : (S l)[j] = l[j]'(by rw [S_size] at h; exact h) := by
  show (S l).data[j]'_ = _
  simp [S]
theorem byte256 (p : UInt8 → Bool) (h : ∀ n : Fin 256, p (UInt8.ofNat n.1) = true) (b : UInt8) : p b = true := by
  have := h ⟨b.toNat, b.toNat_lt⟩
  simpa using this
set_option maxRecDepth 100000 in
theorem letB_iff (b : UInt8) : letB.contains b = decide (97 ≤ b.toNat ∧ b.toNat ≤ 122) := by
  have := byte256 (fun b => letB.contains b == decide (97 ≤ b.toNat ∧ b.toNat ≤ 122)) (by decide +kernel) b
  simpa using this
set_option maxRecDepth 100000 in
theorem nameB_iff (b : UInt8) : nameB.contains b = decide ((97 ≤ b.toNat ∧ b.toNat ≤ 122) ∨ (48 ≤ b.toNat ∧ b.toNat ≤ 57) ∨ b.toNat = 95) := by
  have := byte256 (fun b => nameB.contains b == decide ((97 ≤ b.toNat ∧ b.toNat ≤ 122) ∨ (48 ≤ b.toNat ∧ b.toNat ≤ 57) ∨ b.toNat = 95)) (by decide +kernel) b
  simpa using this
set_option maxHeartbeats 8000000 in
set_option maxRecDepth 100000 in
theorem rname_any (l : Bs) (w : World) : Calls Tryz.prog 95 #[.string (S l)] w fun e w' => e = .returned (.bool (nameE l)) ∧ Below w.heap.size w w' := by
  have HB := Lib.hid (Below.refl w.heap.size w)
  have hsz := S_size l
  cases l with
  | nil =>
    have hs0 : (S []).size = 0 := hsz
    clear hsz
    go_enter Tryz.func95, Tryz.ntmps95
    go_wp2_with fail
    go_ret
    exact ⟨rfl, HB.out⟩
  | cons a r =>
    have hn : nameE (a :: r) = (decide (r.length + 1 ≤ 24) && (letB.contains a && ((a :: r).all nameB.contains && !keywords.contains (a :: r)))) := by unfold nameE; simp
    obtain ⟨T, hT⟩ : ∃ T, nameE (a :: r) = T := ⟨_, rfl⟩
    rw [hT] at hn ⊢
    have HN := Lib.hid hn
    have hsl : (S (a :: r)).size = r.length + 1 := by rw [hsz]; simp
    have HG : Hid (∀ j (h : j < (S (a :: r)).size), ∃ b : UInt8, (S (a :: r))[j] = b ∧ (a :: r)[j]'(by rw [S_size] at h; exact h) = b) := Lib.hid fun j h => ⟨_, S_get _ j h, rfl⟩
    have HA : Hid (letB.contains a = decide (97 ≤ a.toNat ∧ a.toNat ≤ 122)) := Lib.hid (letB_iff a)
    have HK := Lib.hid (fun W => rkeyword_any (a :: r) W)
    have h1i : ¬ (r.length : Int) + 1 < 1 := by omega
    have HT0 : Hid (letB.contains a = true → ((a :: r).take 1).all nameB.contains = true) := Lib.hid fun h => by
      rw [letB_iff] at h
      rw [List.take_succ_cons, List.take_zero, List.all_cons, List.all_nil, Bool.and_true, nameB_iff]
      have := of_decide_eq_true h
      exact decide_eq_true (.inl this)
    clear hn hT hsz
    have g0 : (S (a :: r))[0]'(by omega) = a := S_get (a :: r) 0 (by omega)
    by_cases h24 : r.length + 1 ≤ 24
    · have h24i : ¬ (24 : Int) < (r.length : Int) + 1 := by omega
      by_cases ha1 : a.toNat < 97
      · have hT : T = false := by rw [HN.out, HA.out, decide_eq_false (p := 97 ≤ a.toNat ∧ a.toNat ≤ 122) (by omega)]; simp
        subst hT
        have ha1i : (a.toNat : Int) < 97 := by omega
        clear HN HG HA HK HT0
        go_enter Tryz.func95, Tryz.ntmps95
        go_wp2_with fail
        go_ret
        exact ⟨rfl, HB.out⟩
      · have ha1i : ¬ (a.toNat : Int) < 97 := by omega
        by_cases ha2 : 122 < a.toNat
        · have hT : T = false := by rw [HN.out, HA.out, decide_eq_false (p := 97 ≤ a.toNat ∧ a.toNat ≤ 122) (by omega)]; simp
          subst hT
          have ha2i : (122 : Int) < (a.toNat : Int) := by omega
          clear HN HG HA HK HT0
          go_enter Tryz.func95, Tryz.ntmps95
          go_wp2_with fail
          go_ret
          exact ⟨rfl, HB.out⟩
        · have ha2i : ¬ (122 : Int) < (a.toNat : Int) := by omega
          have hla : letB.contains a = true := by rw [HA.out]; exact decide_eq_true (by omega)
          have H0 := Lib.hid (HT0.out hla)
          have HN2 : Hid (T = ((a :: r).all nameB.contains && !keywords.contains (a :: r))) := Lib.hid (by rw [HN.out, hla, decide_eq_true h24]; simp)
          clear HN HA HT0 hla
          go_enter Tryz.func95, Tryz.ntmps95
          go_wp2_with fail
          go_loopw [3] (fun i wr => ∃ j : Nat, 1 ≤ j ∧ j ≤ r.length + 1 ∧ i = .int .i64 j ∧ Hid (((a :: r).take j).all nameB.contains = true) ∧ wr = w) (fun i _ => r.length + 1 - (intOf i).toNat)
          case atStart => exact ⟨1, Nat.le_refl _, by omega, rfl, H0, rfl⟩
          case round =>
            obtain ⟨j, hj1, hj, rfl, HI, rfl⟩ := hrel
            clear H0 g0 ha1i ha2i
            by_cases hlt : j < r.length + 1
            · have hji : (j : Int) < (r.length : Int) + 1 := by omega
              obtain ⟨b, hb1, hb2⟩ := HG.out j (by omega)
              have HST : Hid (nameB.contains b = true → ((a :: r).take (j + 1)).all nameB.contains = true) := Lib.hid fun h => by
                rw [List.take_succ_eq_append_getElem (show j < (a :: r).length by simp; omega), List.all_append, HI.out, List.all_cons, hb2, h]; rfl
              have HF : Hid (nameB.contains b = false → T = false) := Lib.hid fun h => by
                have hx : (a :: r).all nameB.contains = false := by
                  cases hq : (a :: r).all nameB.contains with
                  | false => rfl
                  | true =>
                    have := List.all_eq_true.1 hq b (hb2 ▸ List.getElem_mem _)
                    rw [this] at h; cases h
                rw [HN2.out, hx]; rfl
              have hbl : b.toNat < 256 := b.toNat_lt
              rw [nameB_iff] at HST HF
              clear hb2 HG HN2 HK HI
              have h0b : (0 : Int) ≤ (b.toNat : Int) := by omega
              by_cases q1 : b.toNat < 97
              · have q1i : (b.toNat : Int) < 97 := by omega
                by_cases q2 : b.toNat < 48
                · have q2i : (b.toNat : Int) < 48 := by omega
                  have q5i : ((b.toNat : Int) != 95) = true := by simp; omega
                  have hT := HF.out (decide_eq_false (by omega))
                  subst hT
                  clear HST HF
                  go_wp2_with fail
                  go_ret
                  exact ⟨rfl, HB.out⟩
                · have q2i : ¬ (b.toNat : Int) < 48 := by omega
                  by_cases q3 : 57 < b.toNat
                  · have q3i : (57 : Int) < (b.toNat : Int) := by omega
                    by_cases q5 : b.toNat = 95
                    · have q5i : ((b.toNat : Int) != 95) = false := by simp; omega
                      have HS2 := Lib.hid (HST.out (decide_eq_true (by omega)))
                      clear HST HF q5
                      go_wp2_with fail
                      go_round
                      case rel => exact ⟨j + 1, by omega, by omega, by go_num, HS2, trivial⟩
                      case measure => simp [intOf]; omega
                    · have q5i : ((b.toNat : Int) != 95) = true := by simp; omega
                      have hT := HF.out (decide_eq_false (by omega))
                      subst hT
                      clear HST HF
                      go_wp2_with fail
                      go_ret
                      exact ⟨rfl, HB.out⟩
                  · have q3i : ¬ (57 : Int) < (b.toNat : Int) := by omega
                    have HS2 := Lib.hid (HST.out (decide_eq_true (by omega)))
                    clear HST HF
                    go_wp2_with fail
                    go_round
                    case rel => exact ⟨j + 1, by omega, by omega, by go_num, HS2, trivial⟩
                    case measure => simp [intOf]; omega
              · have q1i : ¬ (b.toNat : Int) < 97 := by omega
                by_cases q4 : 122 < b.toNat
                · have q4i : (122 : Int) < (b.toNat : Int) := by omega
                  have q2i : ¬ (b.toNat : Int) < 48 := by omega
                  have q3i : (57 : Int) < (b.toNat : Int) := by omega
                  have q5i : ((b.toNat : Int) != 95) = true := by simp; omega
                  have hT := HF.out (decide_eq_false (by omega))
                  subst hT
                  clear HST HF
                  go_wp2_with fail
                  go_ret
                  exact ⟨rfl, HB.out⟩
                · have q4i : ¬ (122 : Int) < (b.toNat : Int) := by omega
                  have HS2 := Lib.hid (HST.out (decide_eq_true (by omega)))
                  clear HST HF
                  go_wp2_with fail
                  go_round
                  case rel => exact ⟨j + 1, by omega, by omega, by go_num, HS2, trivial⟩
                  case measure => simp [intOf]; omega
            · have hji : ¬ (j : Int) < (r.length : Int) + 1 := by omega
              have hT : T = !keywords.contains (a :: r) := by
                have := HI.out
                rw [List.take_of_length_le (by simp; omega)] at this
                rw [HN2.out, this]; rfl
              obtain ⟨q, hq⟩ : ∃ q, keywords.contains (a :: r) = q := ⟨_, rfl⟩
              rw [hq] at hT HK
              subst hT
              clear HI HN2 HG hq
              go_wp2_with (go_at_call 162; (with_reducible refine (HK.out _).mono ?_); rintro e w3 ⟨rfl, rfl⟩)
              go_ret
              exact ⟨rfl, HB.out⟩
    · have h24i : (24 : Int) < (r.length : Int) + 1 := by omega
      have hT : T = false := by rw [HN.out, decide_eq_false h24]; rfl
      subst hT
      clear HN HG HA HK HT0
      go_enter Tryz.func95, Tryz.ntmps95
      go_wp2_with fail
      go_ret
      exact ⟨rfl, HB.out⟩
end Go.Proofs.YtabdgnigmlpeaaaGreatDoor
/- Rows of texts of the call's own; the specification's different. -/
namespace Go.Proofs.YtabdgnigmlpeaaaGreatDoor
open Go.RowKit

def rowT (l : List ByteArray) : List Value := l.map Value.string
theorem Tryz.infoT : (Tryz.prog.info? 9).map (fun i => (i.zero, i.size, i.bytes)) = some (some (.string ⟨#[]⟩), 1, 16) := by kernel_rfl
/-- The row val is the call's own, from block B on, and holds the texts l. -/
def OwnT (w : World) (B : Nat) (val : Value) (l : List ByteArray) : Prop := w.ownsRow B 9 1 val l.length (rowT l)
theorem OwnT.lt {w : World} {B : Nat} {val : Value} {l : List ByteArray} (h : OwnT w B val l) : ∀ k, val.ownBlock = some k → B ≤ k ∧ k < w.heap.size := World.ownsRow.lt h
theorem OwnT.bel {w w' : World} {B : Nat} {val : Value} {l : List ByteArray} (h : OwnT w B val l) (hb : Below w.heap.size w w') : OwnT w' B val l := by
  refine ⟨h.1, h.2.imp id ?_⟩
  rintro ⟨g, cap, cur, rfl, a, b, c⟩
  exact ⟨g, cap, cur, rfl, a, by rw [hb.block g ((Array.getElem?_eq_some_iff.1 b).1)]; exact b, c⟩
theorem OwnT.below {w w' : World} {B : Nat} {v : Value} {l : List ByteArray} (h : OwnT w B v l) (hg : w.grownBy w' v.ownBlock) (hB : B ≤ w.heap.size) : Below B w w' :=
  ⟨hg.os, hg.tape, hg.output, hg.size, fun k hk => hg.block k (by omega) fun e => by have := (h.lt k e.symm).1; omega⟩
theorem own1T (V : World) (k B : Nat) (hk : V.heap.size = k) (hB : B ≤ k) : OwnT (V.alloc (.cells #[] 9)) B (.slice (some ⟨k, 0, none⟩) 0 0) [] := by
  subst hk
  exact ⟨rfl, .inr ⟨V.heap.size, 0, #[], rfl, hB, heap_alloc_new V _, Nat.le_refl _, by unfold maxLen; omega, rfl, rfl⟩⟩
/-- A slice that reads as a list of texts. -/
def ReadsT (w : World) (v : Value) (l : List ByteArray) : Prop := ∃ p cap b, v = .slice p l.length cap ∧ l.length ≤ 1000000 ∧ (l ≠ [] → p = some ⟨b, 0, none⟩) ∧ (∀ i (h : i < l.length), w.cell? ⟨b, i, none⟩ = some (.string l[i]))
theorem ReadsT.bel {w w' : World} {v : Value} {l : List ByteArray} (h : ReadsT w v l) (hb : Below w.heap.size w w') : ReadsT w' v l := by
  obtain ⟨p, cap, b, h1, h2, h3, h4⟩ := h
  exact ⟨p, cap, b, h1, h2, h3, fun i hi => keepc hb (h4 i hi)⟩
theorem OwnT.reads {w : World} {B : Nat} {val : Value} {l : List ByteArray} (h : OwnT w B val l) (hl : l.length ≤ 1000000) : ReadsT w val l := by
  rcases h.2 with ⟨hv, hn0⟩ | ⟨g, cap, cur, hv, hB, hg, hc, hm, hsz, ht⟩
  · obtain rfl : l = [] := List.length_eq_zero_iff.1 hn0
    exact ⟨none, 0, 0, hv, by simp, fun h => absurd rfl h, fun i h => by simp at h⟩
  · refine ⟨_, cap, g, hv, hl, fun _ => rfl, fun i hi => ?_⟩
    rw [cell_of_row w g i cur _ (0, 0) hg]
    have hu : (rowT l)[i]? = some (.string l[i]) := by simp [rowT, hi]
    rw [← ht, List.getElem?_take] at hu
    split at hu
    · simpa using hu
    · cases hu
theorem wpList_pushT {ops : Array Oper} {rest : List Oper} {o : Oper} {a : Act} {w : World} {K : Exit → Act → World → Prop} (hgd : o.guard = none) (s x : Operand)
    (ho : o.op = .call { callee := .builtin .append, args := #[s, x], argTypes := #[149, 149] })
    (B : Nat) (val : Value) (l : List ByteArray) (hown : OwnT w B val l) (hs : a.eval s = val) (t : ByteArray) (c H : Nat) (hH : w.heap.size = H) (hx : a.eval x = .slice (some ⟨H, 0, none⟩) 1 c) (hn : l.length ≤ 1000000) (hB : B ≤ w.heap.size)
    (h : ∀ g cap' w', OwnT w' B (.slice (some ⟨g, 0, none⟩) (l.length + 1) cap') (l ++ [t]) → w.grownBy w' val.ownBlock → wpList Tryz.prog ops K rest (a.put o.dst (.slice (some ⟨g, 0, none⟩) (l.length + 1) cap')) w') :
    wpList Tryz.prog ops K (o :: rest) a (w.alloc (.cells #[.string t] 9)) := by
  subst hH
  obtain ⟨i0, hi, hz0, hz1, hz2⟩ := info_parts Tryz.infoT
  have hcells : ∀ j u, ([.string t] : List Value)[j]? = some u → (w.alloc (.cells #[.string t] 9)).cell? ((⟨w.heap.size, 0, none⟩ : Addr).add j) = some u := by
    intro j u hj
    match j, hj with
    | 0, hj => simp at hj; subst hj; simp [Addr.add]
    | j + 1, hj => simp at hj
  refine wpList_append_lies _ hgd s x 149 ho B 9 i0 _ 1 16 Tryz.underlying149 hi hz0 hz1 hz2 rfl (by decide) val l.length (rowT l) hs (World.ownsRow.alloc hown _) ⟨w.heap.size, 0, none⟩ 1 c _ hx rfl hcells (by simp [Value.oneCell']) (by decide) (by unfold maxLen; omega) (by omega) (by simp; omega) (w.heap.size + 1) (by simp) ?_
  intro g cap' w' hown' hg hat hlt
  have hg' : w.grownBy w' val.ownBlock := by
    refine ⟨hg.os, hg.tape, hg.output, by have := hg.size; simp at this; omega, fun k hk hne => ?_⟩
    exact (hg.block k (by simp; omega) hne).trans (by rw [((Below.refl w.heap.size w).alloc (Nat.le_refl _) _).block k hk])
  refine h g cap' w' ?_ hg'
  unfold OwnT
  rw [List.length_append]
  have : rowT (l ++ [t]) = rowT l ++ [.string t] := by simp [rowT]
  rw [this]
  exact hown'
theorem namesOk_one {N : List Bs} {i : Nat} (hi : i < N.length) (h : namesOk (N.take i) = true) (hn : nameE N[i] = true) (hd : ∀ k (hk : k < i), N[k]'(by omega) ≠ N[i]) : namesOk (N.take (i + 1)) = true := by
  unfold namesOk at h ⊢
  rw [Bool.and_eq_true, decide_eq_true_eq] at h ⊢
  rw [List.take_succ_eq_append_getElem hi, List.all_append, h.1, List.nodup_append]
  refine ⟨by simp [hn], h.2, by simp, fun a ha b hb => ?_⟩
  rw [List.mem_singleton] at hb
  subst hb
  obtain ⟨k, hk, rfl⟩ := List.getElem_of_mem ha
  rw [List.length_take] at hk
  rw [List.getElem_take]
  exact hd k (by omega)
theorem namesOk_bad {N : List Bs} {i : Nat} (hi : i < N.length) (hn : nameE N[i] = false) : namesOk N = false := by
  cases hq : namesOk N with
  | false => rfl
  | true =>
    unfold namesOk at hq
    rw [Bool.and_eq_true] at hq
    have := List.all_eq_true.1 hq.1 N[i] (List.getElem_mem hi)
    rw [hn] at this; cases this
theorem namesOk_twice {N : List Bs} {i k : Nat} (hi : i < N.length) (hk : k < i) (he : N[k]'(by omega) = N[i]) : namesOk N = false := by
  cases hq : namesOk N with
  | false => rfl
  | true =>
    unfold namesOk at hq
    rw [Bool.and_eq_true, decide_eq_true_eq] at hq
    exact absurd he (List.pairwise_iff_getElem.1 hq.2 k i (by omega) hi hk)
set_option maxHeartbeats 8000000 in
set_option maxRecDepth 100000 in
theorem rdiff_any (l : List ByteArray) (v : Value) (W : World) (h : ReadsT W v l) :
    Calls Tryz.prog 96 #[v] W fun e w' => e = .returned (.bool (namesOk (l.map fun s => s.data.toList))) ∧ Below W.heap.size W w' := by
  obtain ⟨p, cap, b, rfl, h1, h2, h3⟩ := h
  have HB0 := Lib.hid (Below.refl W.heap.size W)
  obtain ⟨N, hN⟩ : ∃ N, (l.map fun s => s.data.toList) = N := ⟨_, rfl⟩
  have hNl : l.length = N.length := by rw [← hN, List.length_map]
  have hNi : ∀ i (h : i < l.length) (h2 : i < N.length), N[i] = l[i].data.toList := fun i h h2 => by subst hN; simp
  rw [hN]
  obtain ⟨T, hT⟩ : ∃ T, namesOk N = T := ⟨_, rfl⟩
  rw [hT]
  have HT := Lib.hid hT
  have H0 : Hid (namesOk (N.take 0) = true) := Lib.hid (by rw [List.take_zero]; rfl)
  have HE : Hid (∀ w', Below W.heap.size W w' → ∀ j (h : j < l.length), p = some ⟨b, 0, none⟩ ∧ w'.cell? ⟨b, j, none⟩ = some (.string l[j])) := Lib.hid fun w' hb j hj => ⟨h2 (by rintro rfl; simp at hj), keepc hb (h3 j hj)⟩
  have HN : Hid (∀ i (h : i < l.length) (h2 : i < N.length) W, Calls Tryz.prog 95 #[.string l[i]] W fun e w' => e = .returned (.bool (nameE N[i])) ∧ Below W.heap.size W w') := Lib.hid fun i h h2 W => by
    have := rname_any l[i].data.toList W
    rw [S_eta] at this
    rw [hNi i h h2]
    exact this
  have HNi := Lib.hid hNi
  have HNl := Lib.hid hNl
  clear h2 h3 hN hT hNi hNl
  go_enter Tryz.func96, Tryz.ntmps96
  go_wp2_with fail
  go_loopw [3] (fun i wr => ∃ j : Nat, j ≤ l.length ∧ i = .int .i64 j ∧ Hid (namesOk (N.take j) = true) ∧ Hid (Below W.heap.size W wr)) (fun i _ => l.length - (intOf i).toNat)
  case atStart => exact ⟨0, Nat.zero_le _, rfl, H0, HB0⟩
  case round =>
    obtain ⟨j, hj, rfl, HI, HB⟩ := hrel
    clear H0 HB0
    by_cases hlt : j < l.length
    · have hji : (j : Int) < (l.length : Int) := by omega
      have hjN : j < N.length := by have := HNl.out; omega
      obtain ⟨rfl, a0⟩ := HE.out _ HB.out j hlt
      have HCC := Lib.hid (HN.out j hlt hjN)
      obtain ⟨q, hq⟩ : ∃ q, nameE N[j] = q := ⟨_, rfl⟩
      rw [hq] at HCC
      have HQ := Lib.hid hq
      clear HN hq
      cases q with
      | false =>
        have hT : T = false := by rw [← HT.out]; exact namesOk_bad hjN HQ.out
        subst hT
        clear HI HE HT HNi HQ
        go_wp2_with (go_at_call 95; (with_reducible refine (HCC.out _).mono ?_); rintro e w2 ⟨rfl, hb⟩; have HB2 := Lib.hid (HB.out.trans (hb.mono HB.out.size)); clear hb)
        go_ret
        exact ⟨rfl, HB2.out⟩
      | true =>
        go_wp2_with (go_at_call 95; (with_reducible refine (HCC.out _).mono ?_); rintro e w2 ⟨rfl, hb⟩; have HB2 := Lib.hid (HB.out.trans (hb.mono HB.out.size)); clear hb)
        clear HB HCC a0
        go_loopw [4] (fun i wr => ∃ k : Nat, k ≤ j ∧ i = .int .i64 k ∧ Hid (∀ z (hz : z < k), ∃ h : z < N.length, N[z] ≠ N[j]) ∧ Hid (Below W.heap.size W wr)) (fun i _ => j - (intOf i).toNat)
        case atStart => exact ⟨0, Nat.zero_le _, rfl, Lib.hid (fun z hz => absurd hz (by omega)), HB2⟩
        case round =>
          obtain ⟨k, hk, rfl, HD, HB⟩ := hrel
          clear HB2
          by_cases hkl : k < j
          · have hki : (k : Int) < (j : Int) := by omega
            obtain ⟨-, a0⟩ := HE.out _ HB.out j hlt
            obtain ⟨-, a1⟩ := HE.out _ HB.out k (by omega)
            have hki2 : (k : Int) < (l.length : Int) := by omega
            have HN1 := Lib.hid (HNi.out j hlt hjN)
            have HN2 := Lib.hid (HNi.out k (by omega) (by omega))
            clear HE HNi
            generalize l[j] = sj at *
            generalize l[k] = sk at *
            have HNl2 := Lib.hid (show k < N.length by omega)
            by_cases he : sk.toList = sj.toList
            · have hb : (sk.toList == sj.toList) = true := by simpa using he
              have hT : T = false := by
                rw [← HT.out]
                refine namesOk_twice hjN hkl ?_
                rw [HN1.out, HN2.out, ← ByteArray.toList_eq, ← ByteArray.toList_eq, he]
              subst hT
              clear HI HD HT HQ HN1 HN2 he
              go_wp2_with fail
              go_quiet (fail)
              go_wp2_with fail
              go_ret
              exact ⟨rfl, bel_drewN HB.out _⟩
            · have hb : (sk.toList == sj.toList) = false := by simpa using he
              have HD2 : Hid (∀ z (hz : z < k + 1), ∃ h : z < N.length, N[z] ≠ N[j]) := Lib.hid fun z hz => by
                by_cases hzk : z = k
                · subst hzk
                  refine ⟨HNl2.out, ?_⟩
                  rw [HN1.out, HN2.out, ← ByteArray.toList_eq, ← ByteArray.toList_eq]
                  exact he
                · exact HD.out z (by omega)
              clear HI HD HT HQ HN1 HN2 he
              go_wp2_with fail
              go_quiet (fail)
              go_wp2_with fail
              go_round
              case rel => exact ⟨k + 1, by omega, by go_num, HD2, Lib.hid (bel_drewN HB.out _)⟩
              case measure => simp [intOf]; omega
          · have hki : ¬ (k : Int) < (j : Int) := by omega
            have HI2 := Lib.hid (namesOk_one hjN HI.out HQ.out fun z hz => (HD.out z (by omega)).2)
            clear HI HD HE HNi HT HQ
            go_wp2_with fail
            go_roundw
            case rel =>

              exact ⟨j + 1, by omega, by go_num, HI2, HB⟩
            case measure => simp [intOf]; omega
    · have hji : ¬ (j : Int) < (l.length : Int) := by omega
      have hT : T = true := by
        have := HI.out
        rw [List.take_of_length_le (by have := HNl.out; omega)] at this
        exact HT.out.symm.trans this
      subst hT
      clear HE HI HN HNi
      go_wp2_with fail
      go_ret
      exact ⟨rfl, HB.out⟩
end Go.Proofs.YtabdgnigmlpeaaaGreatDoor
