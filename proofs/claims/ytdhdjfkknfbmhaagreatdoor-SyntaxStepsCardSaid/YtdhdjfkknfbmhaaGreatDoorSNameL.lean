/- name; a course that ends behind its first `{`. -/
import Derived.Test.YtdhdjfkknfbmhaaGreatDoorSReadS
import Derived.Test.YtdhdjfkknfbmhaaGreatDoorKKey
import Derived.Test.YtdhdjfkknfbmhaaGreatDoorSCatch
namespace Go.Proofs.YtdhdjfkknfbmhaaGreatDoor
open Go.RowKit

/-- The next token is a NAME. -/
def nameB (l : List Tk) : Bool := kindS 1 l && !keywords.contains (textS l)
def nameS : P Bs := fun l => if nameB l = true then .ok (textS l) l.tail else failS 60 l
/-- What a parser of a text comes to. -/
def EndsN (w : World) (pb tb off cap : Nat) (M : Nat → Value) (L : List Tk) (T : PR Bs) (e : Ending) (w' : World) : Prop :=
  match T with
  | .ok a r => e = .returned (.string (S a)) ∧ Kp w w' pb ∧ ∃ q, L.drop q = r ∧ Psr w' pb tb off cap M L q
  | .err a x => e = .panicked (failV a x) ∧ Kp w w' pb

set_option maxHeartbeats 4000000 in
set_option maxRecDepth 100000 in
theorem seesName_any (w : World) (pb tb off cap : Nat) (M : Nat → Value) (L : List Tk) (i : Nat) (h : Psr w pb tb off cap M L i) :
    Calls Tryz.prog 121 #[.pointer (some ⟨pb, 0, none⟩)] w fun e w' => e = .returned (.bool (nameB (L.drop i))) ∧ Below w.heap.size w w' := by
  obtain ⟨t, r, hr⟩ := drop_head h
  have HN := Lib.hid (pnext_any w pb tb off cap M L i h t r hr)
  have HKW := Lib.hid (keyword_any t.t)
  have HB : Hid (nameB (L.drop i) = ((t.k == 1) && !keywords.contains t.t)) := Lib.hid (by rw [hr]; rfl)
  generalize keywords.contains t.t = kw at *
  generalize nameB (L.drop i) = R at *
  clear h hr
  unfold tokV at HN
  cases hk : (t.k == 1) with
  | false =>
    rw [hk, Bool.false_and] at HB
    go_enter Tryz.func121, Tryz.ntmps121
    go_wp2_with fail
    go_at_call 119
    refine HN.out.mono ?_
    rintro e w1 ⟨rfl, hb⟩
    have HB1 := Lib.hid (hb.alloc hb.size (.cells #[.int .i64 t.k, .string (S t.t), .int .i64 t.a] 57))
    clear hb
    go_wp2_with fail
    go_ret
    exact ⟨ret_bool HB.out.symm, HB1.out⟩
  | true =>
    rw [hk, Bool.true_and] at HB
    go_enter Tryz.func121, Tryz.ntmps121
    go_wp2_with fail
    go_at_call 119
    refine HN.out.mono ?_
    rintro e w1 ⟨rfl, hb⟩
    have HB1 := Lib.hid (hb.alloc hb.size (.cells #[.int .i64 t.k, .string (S t.t), .int .i64 t.a] 57))
    clear hb
    go_wp2_with (go_at_call 161; refine (HKW.out _).mono ?_; rintro e w2 ⟨rfl, rfl⟩)
    go_ret
    exact ⟨ret_bool HB.out.symm, HB1.out⟩

set_option maxHeartbeats 4000000 in
set_option maxRecDepth 100000 in
theorem name_any (w : World) (pb tb off cap : Nat) (M : Nat → Value) (L : List Tk) (i : Nat) (h : Psr w pb tb off cap M L i) :
    Calls Tryz.prog 65 #[.pointer (some ⟨pb, 0, none⟩)] w fun e w' => EndsN w pb tb off cap M L (nameS (L.drop i)) e w' := by
  obtain ⟨t, r, hr⟩ := drop_head h
  obtain ⟨-, -, h6, -⟩ := h.head hr
  have HSE := Lib.hid (seesName_any w pb tb off cap M L i h)
  have HRQ : Hid (∀ w1, Below w.heap.size w w1 → ∀ b, Calls Tryz.prog 118 #[.pointer (some ⟨pb, 0, none⟩), .bool b] w1 fun e w' => e = (if b = true then .returned (.tuple #[]) else .panicked (failV (atS (L.drop i)) 60)) ∧ Below w1.heap.size w1 w') := Lib.hid fun w1 hb b => require_any b w1 pb tb off cap M L i (h.bel hb (Nat.le_refl _))
  have HTK : Hid (r ≠ [] → ∀ w1, Below w.heap.size w w1 → Calls Tryz.prog 120 #[.pointer (some ⟨pb, 0, none⟩)] w1 fun e w' => e = .returned (.string (S t.t)) ∧ Psr w' pb tb off cap M L (i + 1) ∧ Kp w1 w' pb) := Lib.hid fun hne w1 hb => ptake_any w1 pb tb off cap M L i (h.bel hb (Nat.le_refl _)) t r hr hne
  have hne : nameB (L.drop i) = true → r ≠ [] := by
    intro hb e
    rw [hr] at hb
    have h1 : t.k = 1 := by
      unfold nameB kindS at hb
      simp only [Bool.and_eq_true, beq_iff_eq] at hb
      exact hb.1
    have := h6.2 e
    omega
  have htx : textS (L.drop i) = t.t := by rw [hr]; rfl
  unfold nameS
  rw [htx, List.tail_drop]
  have hf : (failS 60 (L.drop i) : PR Bs) = .err (atS (L.drop i)) 60 := rfl
  rw [hf]
  clear h hr h6 htx hf
  generalize atS (L.drop i) = at' at HRQ ⊢
  generalize nameB (L.drop i) = B at HSE hne ⊢
  cases B with
  | true =>
    have HTK2 := Lib.hid (HTK.out (hne rfl))
    clear hne HTK
    rw [if_pos rfl]
    go_enter Tryz.func65, Tryz.ntmps65
    go_wp2_with (first | (go_at_call 121; refine HSE.out.mono ?_; rintro e w1 ⟨rfl, hb⟩; have HB1 := Lib.hid hb; clear hb) | (go_at_call 118; refine (HRQ.out _ HB1.out true).mono ?_; rintro e w2 ⟨rfl, hb⟩; have HB2 := Lib.hid (HB1.out.trans (hb.mono HB1.out.size)); clear hb) | (go_at_call 120; refine (HTK2.out _ HB2.out).mono ?_; rintro e w3 ⟨rfl, hp3, hk3⟩; have HP3 := Lib.hid hp3; have HK3 := Lib.hid ((Kp.ofBelow HB2.out (Nat.le_refl _)).trans hk3); clear hp3 hk3))
    go_ret
    exact ⟨rfl, HK3.out, i + 1, rfl, HP3.out⟩
  | false =>
    clear hne HTK
    rw [if_neg (by decide)]
    go_enter Tryz.func65, Tryz.ntmps65
    go_wp2_with (first | (go_at_call 121; refine HSE.out.mono ?_; rintro e w1 ⟨rfl, hb⟩; have HB1 := Lib.hid hb; clear hb) | (go_at_call 118; refine (HRQ.out _ HB1.out false).mono ?_; rintro e w2 ⟨rfl, hb⟩; have HB2 := Lib.hid (HB1.out.trans (hb.mono HB1.out.size)); clear hb))
    exact ⟨rfl, rfl, Kp.ofBelow HB2.out (Nat.le_refl _)⟩

def wMats : Bs := [109, 97, 116, 115]
def wCourse : Bs := [99, 111, 117, 114, 115, 101]
theorem STs.two (w : World) {pb : Nat} (h : pb < w.heap.size) (s t : Bs) : STs (w.alloc (.cells #[.string (S s), .string (S t)] 9)) pb (some ⟨w.heap.size, 0, none⟩) [s, t] := by
  refine fun _ => ⟨_, _, rfl, by omega, by simp, fun j hj => ?_⟩
  match j, hj with
  | 0, _ => simp [go_sem]
  | 1, _ => simp [go_sem]
theorem expect2_any (s t : Bs) (hs : s.length ≤ 1000) (ht : t.length ≤ 1000) (w : World) (pb tb off cap : Nat) (M : Nat → Value) (L : List Tk) (q : Nat) (h : Psr w pb tb off cap M L q) :
    Calls Tryz.prog 64 #[.pointer (some ⟨pb, 0, none⟩), .slice (some ⟨w.heap.size, 0, none⟩) 2 2] (w.alloc (.cells #[.string (S s), .string (S t)] 9)) fun e w' => Ends0 w pb tb off cap M L (expectS [s, t] (L.drop q)) e w' := by
  have hB := (Below.refl w.heap.size w).alloc (Nat.le_refl _) (.cells #[.string (S s), .string (S t)] 9)
  refine (expect_any [s, t] (by simp [hs, ht]) (by simp) _ 2 _ pb tb off cap M L q (h.bel hB (Nat.le_refl _)) (STs.two w h.lt s t)).mono ?_
  intro e w' he
  have hk := Kp.ofBelow (sb := pb) hB (Nat.le_refl _)
  revert he
  cases expectS [s, t] (L.drop q) with
  | err a x => exact fun he => ⟨he.1, hk.trans he.2⟩
  | ok u r => exact fun he => ⟨he.1, hk.trans he.2.1, he.2.2⟩

set_option maxHeartbeats 4000000 in
set_option maxRecDepth 100000 in
theorem allMats_bad (a : Nat) (x : Int) (w : World) (pb tb off cap : Nat) (M : Nat → Value) (L : List Tk) (i : Nat) (h : Psr w pb tb off cap M L i) (hx : expectS [wMats, [123]] (L.drop i) = .err a x) :
    Calls Tryz.prog 66 #[.pointer (some ⟨pb, 0, none⟩)] w fun e w' => e = .panicked (failV a x) ∧ Kp w w' pb := by
  have HX := Lib.hid (expect2_any wMats [123] (by decide) (by decide) w pb tb off cap M L i h)
  rw [hx] at HX
  clear h hx
  go_enter Tryz.func66, Tryz.ntmps66
  go_wp2_with fail
  go_at_call 64
  refine HX.out.mono ?_
  rintro e w1 ⟨rfl, hk⟩
  go_wp2_with fail
  exact ⟨rfl, rfl, hk⟩

def crsZ : List Value := [.string ⟨#[]⟩, .slice none 0 0, .slice none 0 0, .slice none 0 0, .slice none 0 0, .slice none 0 0, .slice none 0 0, .slice none 0 0, .slice none 0 0, .int .i64 0, .int .i64 0, .int .i64 0, .int .i64 0, .int .i64 0, .int .i64 0, .int .i64 0]
def crsZero : Obj := .cells crsZ.toArray 42
theorem crsZero_new (w : World) : Cells (w.alloc crsZero) w.heap.size crsZ := Cells.new w _ _ fun o => by simp [go_sem]
set_option maxHeartbeats 4000000 in
set_option maxRecDepth 100000 in
theorem course_bad (a : Nat) (x : Int) (n : Bs) (w : World) (pb tb off cap : Nat) (M : Nat → Value) (L : List Tk) (h : Psr w pb tb off cap M L 0)
    (h1 : expectS [wCourse] L = .ok () (L.drop 1)) (h2 : nameS (L.drop 1) = .ok n (L.drop 2)) (h3 : expectS [[123]] (L.drop 2) = .ok () (L.drop 3)) (h4 : expectS [wMats, [123]] (L.drop 3) = .err a x) :
    Calls Tryz.prog 30 #[.pointer (some ⟨pb, 0, none⟩)] w fun e w' => e = .panicked (failV a x) ∧ Kp w w' pb := by
  have HX : Hid (∀ s : Bs, s.length ≤ 1000 → ∀ wx q, Psr wx pb tb off cap M L q → Calls Tryz.prog 64 #[.pointer (some ⟨pb, 0, none⟩), .slice (some ⟨wx.heap.size, 0, none⟩) 1 1] (wx.alloc (.cells #[.string (S s)] 9)) fun e w' => Ends0 wx pb tb off cap M L (expectS [s] (L.drop q)) e w') := Lib.hid fun s hs wx q hx => expect1_any s hs wx pb tb off cap M L q hx
  have HNM : Hid (∀ wx q, Psr wx pb tb off cap M L q → Calls Tryz.prog 65 #[.pointer (some ⟨pb, 0, none⟩)] wx fun e w' => EndsN wx pb tb off cap M L (nameS (L.drop q)) e w') := Lib.hid fun wx q hx => name_any wx pb tb off cap M L q hx
  have HAM : Hid (∀ wx q, L.drop q = L.drop 3 → Psr wx pb tb off cap M L q → Calls Tryz.prog 66 #[.pointer (some ⟨pb, 0, none⟩)] wx fun e w' => e = .panicked (failV a x) ∧ Kp wx w' pb) := Lib.hid fun wx q hq hx => allMats_bad a x wx pb tb off cap M L q hx (by rw [hq]; exact h4)
  have hB := (Below.refl w.heap.size w).alloc (Nat.le_refl _) crsZero
  have HZ := Lib.hid (crsZero_new w)
  have HK0 := Lib.hid (Kp.ofBelow (sb := pb) hB (Nat.le_refl _))
  have HP0 := Lib.hid (h.bel hB (Nat.le_refl _))
  have hpb := h.lt
  have htb := h.tlt
  have H1 := Lib.hid (HX.out wCourse (by decide) _ 0 HP0.out)
  rw [List.drop_zero, h1, World.size_alloc] at H1
  unfold crsZero crsZ at H1
  have H2 := Lib.hid h2
  have H3 := Lib.hid h3
  clear h h1 h2 h3 h4 hB
  go_enter Tryz.func30, Tryz.ntmps30
  go_wp2_with fail
  go_at_call 64
  refine H1.out.mono ?_
  rintro e w1 ⟨rfl, hk, q1, hq1, hp⟩
  have HK1 := Lib.hid (HK0.out.trans hk)
  have HZ1 := Lib.hid (HZ.out.kp hk (by omega))
  have H2' := HNM.out w1 q1 hp
  rw [hq1, H2.out] at H2'
  clear hk hp HZ HK0 HP0 H1 hq1
  go_wp2_with fail
  go_at_call 65
  refine H2'.mono ?_
  clear H2' H2
  rintro e w2 ⟨rfl, hk, q2, hq2, hp⟩
  have HZ2 := Lib.hid (HZ1.out.kp hk (by omega))
  have z0 : w2.cell? ⟨w.heap.size, 0, none⟩ = some (.string ⟨#[]⟩) := HZ2.out.c 0 _ rfl
  have f0 := HZ2.out.fz 0
  have hk2 := Kp.own w2 w.heap.size 0 (.string (S n))
  have HK3 := Lib.hid ((HK1.out.trans hk).trans2 hk2 (Nat.le_refl _))
  have HP3 := Lib.hid (Cells.psr hp hk2 (by omega) (by omega))
  clear hk hp hk2 HZ1 HK1 HZ2
  go_wp2_with fail
  clear z0 f0
  have hsz : (w2.setCell ⟨w.heap.size, 0, none⟩ (.string (S n))).heap.size = w2.heap.size := by simp
  generalize w2.setCell ⟨w.heap.size, 0, none⟩ (.string (S n)) = w3 at *
  have H4 := HX.out [123] (by decide) w3 q2 HP3.out
  rw [hq2, H3.out, hsz] at H4
  go_at_call 64
  refine H4.mono ?_
  clear H4 hq2 H3
  rintro e w4 ⟨rfl, hk, q4, hq4, hp⟩
  have HK4 := Lib.hid (HK3.out.trans hk)
  have H5 := HAM.out w4 q4 hq4 hp
  clear hk hp hq4
  go_wp2_with fail
  go_at_call 66
  refine H5.mono ?_
  rintro e w5 ⟨rfl, hk⟩
  go_wp2_with fail
  exact ⟨rfl, rfl, HK4.out.trans hk⟩
end Go.Proofs.YtdhdjfkknfbmhaaGreatDoor
/- What read of courses defers. -/
namespace Go.Proofs.YtdhdjfkknfbmhaaGreatDoor
open Go.RowKit

set_option maxHeartbeats 4000000 in
set_option maxRecDepth 100000 in
theorem catchK_panicking (ba be : Nat) (older : List PanicEntry) (w : World) (c0 d0 : Value) (h0 : w.cell? ⟨ba, 0, none⟩ = some c0) (h1 : w.cell? ⟨be, 0, none⟩ = some d0)
    (f0 : w.frozen? ⟨ba, 0, none⟩ = false) (f1 : w.frozen? ⟨be, 0, none⟩ = false) (hne : ba ≠ be) (a x : Int) :
    CallsD Tryz.prog 62 #[.pointer (some ⟨ba, 0, none⟩), .pointer (some ⟨be, 0, none⟩)] (.panicking ({ v := .iface 127 (.agg #[.int .i64 a, .int .i64 x]), recovered := false } :: older)) w fun e u' w' =>
      e = .returned (.tuple #[]) ∧ u' = .panicking ({ v := .iface 127 (.agg #[.int .i64 a, .int .i64 x]), recovered := true } :: older) ∧ Two w w' ba be (.int .i64 a) (.int .i64 x) := by
  refine callsD_of_wpS Tryz.func62 rfl fun c₀ cs hu => ?_
  apply wpS_seq
  apply wpS_region
  simp [wpOpsS, go_sem, recoverD, hu, assert_yes, Tryz.ntmps62, Exit.thenS]
  refine wpS_of_wp ?_
  have l0 := World.block_lt_of_cell? w ⟨ba, 0, none⟩ h0
  have l1 := World.block_lt_of_cell? w ⟨be, 0, none⟩ h1
  simp only [Array.replicate, List.reduceReplicate, List.setIfInBounds_toArray, List.set_cons_succ, List.set_cons_zero, List.append_toArray, List.cons_append, List.nil_append]
  have l0 : ba < w.heap.size := l0
  have l1 : be < w.heap.size := l1
  have hne' : be ≠ ba := fun e => hne e.symm
  go_wp2_with fail
  go_region
  have HT := Two.laid h0 h1 hne (.int .i64 a) (.int .i64 x) (.cells #[.int .i64 a, .int .i64 x] 127)
  cases c₀
  simp_all (config := { zetaDelta := true }) [bodyPostS, results, Tryz.results62]

set_option maxHeartbeats 4000000 in
set_option maxRecDepth 100000 in
theorem catchK_idle (ba be : Nat) (w : World) :
    CallsD Tryz.prog 62 #[.pointer (some ⟨ba, 0, none⟩), .pointer (some ⟨be, 0, none⟩)] .returning w fun e u' w' => e = .returned (.tuple #[]) ∧ u' = .returning ∧ Below w.heap.size w w' := by
  refine callsD_of_wpS Tryz.func62 rfl fun c₀ cs hu => ?_
  apply wpS_seq
  apply wpS_region
  simp [wpOpsS, go_sem, recoverD, hu, assert_no, Tryz.ntmps62, Exit.thenS]
  refine wpS_of_wp ?_
  simp only [Array.replicate, List.reduceReplicate, List.setIfInBounds_toArray, List.set_cons_succ, List.set_cons_zero, List.append_toArray, List.cons_append, List.nil_append]
  have HB := (Below.refl w.heap.size w).alloc (Nat.le_refl _) (.cells #[.int .i64 0, .int .i64 0] 127)
  go_wp2_with fail
  cases c₀
  simp_all [bodyPostS, results, Tryz.results62]
end Go.Proofs.YtdhdjfkknfbmhaaGreatDoor
/- Course, where the reading ends behind the first `{`. -/
namespace Go.Proofs.YtdhdjfkknfbmhaaGreatDoor
open Go.RowKit

set_option maxHeartbeats 4000000 in
set_option maxRecDepth 100000 in
theorem readK_bad (l : Bs) (hl : l.length ≤ 65536) (hP : (tokens l).2 = []) (a : Nat) (x : Int) (w : World) (hGl : Gl w) (hG : GlE w) (B : Nat) (p : Option Addr) (cap : Nat) (hp : BAt w B p l)
    (hC : ∀ wx pb tb off cap M, Psr wx pb tb off cap M (tokens l).1 0 → Calls Tryz.prog 30 #[.pointer (some ⟨pb, 0, none⟩)] wx fun e w' => e = .panicked (failV a x) ∧ Kp wx w' pb) :
    Calls Tryz.prog 29 #[.slice p l.length cap, .func (Fn.func 30) #[] #[]] w fun e w' => Below w.heap.size w w' ∧ e = .returned (.tuple #[.agg crsZ.toArray, .int .i64 a, .int .i64 x]) := by
  have hmf : ∀ (fn : Fn) (first cap : Array Value) (w : World), (Instr.makeFunc fn first cap).run Tryz.prog w = .ok (.func fn first cap) w := fun _ _ _ _ => rfl
  obtain ⟨W, hW⟩ : ∃ W, ((w.alloc crsZero).alloc (.cells #[.int .i64 0] 3)).alloc (.cells #[.int .i64 0] 26) = W := ⟨_, rfl⟩
  have hB : Below w.heap.size w W := by
    rw [← hW]
    exact (((Below.refl w.heap.size w).alloc (Nat.le_refl _) _).alloc (by simp) _).alloc (by simp only [World.size_alloc]; omega) _
  have HZ : Hid (Three w W w.heap.size crsZ (.int .i64 0) (.int .i64 0)) := Lib.hid (by
    have hB' := hB
    rw [← hW] at hB' ⊢
    have h1 := crsZero_new w
    have h2 := Cells.new (w.alloc crsZero) [.int .i64 0] 3 (fun o => by simp [go_sem])
    have h3 := Cells.new ((w.alloc crsZero).alloc (.cells #[.int .i64 0] 3)) [.int .i64 0] 26 (fun o => by simp [go_sem])
    simp only [World.size_alloc] at h2 h3
    exact ⟨hB', (h1.bel ((Below.refl _ _).alloc (Nat.le_refl _) _)).bel ((Below.refl _ _).alloc (Nat.le_refl _) _), h2.bel ((Below.refl _ _).alloc (Nat.le_refl _) _), h3⟩)
  have HW3 : Hid (W.heap.size = w.heap.size + 3) := Lib.hid (by rw [← hW]; simp)
  have HT := Lib.hid (tokens_any l (by omega) W (hGl.bel' hB) B p cap (hp.bel hB (Nat.le_refl _)))
  have HGE := Lib.hid (hG.bel hB)
  have h9w := hG.size
  have h9 : ¬ 65536 < l.length := by omega
  simp only [if_neg h9] at HT
  have HC := Lib.hid hC
  clear hGl hG hp hB hC
  have hsm := tokens_fin l (by omega)
  obtain ⟨L, hL⟩ : ∃ L, (tokens l).1 = L := ⟨_, rfl⟩
  rw [hL, hP] at HT
  rw [hL] at hsm HC
  clear hL hP
  have hlen := hsm.len
  have HSM := Lib.hid hsm
  clear hsm h9
  unfold crsZero crsZ at hW
  go_enter_defers Tryz.func29, Tryz.ntmps29
  go_wp2_with fail
  clear hW
  go_at_call 10
  refine HT.out.mono ?_
  rintro e w1 ⟨hb, v1, v2, rfl, ht, hpr⟩
  have HZ1 := Lib.hid (HZ.out.bel hb)
  obtain ⟨p1, cap1, rfl, hta, hc1, hc2, -⟩ := ht.reads (by rw [List.length_map]; omega) (fun x hx => by
    obtain ⟨y, hy, rfl⟩ := List.mem_map.1 hx
    have := HSM.out.tl y hy
    show y.t.length ≤ _
    omega)
  obtain ⟨p2, cap2, rfl, hpa, hd1, hd2⟩ := hpr.reads
  rw [List.length_map] at hc1
  have HTA := Lib.hid hta
  have HG1 := Lib.hid (HGE.out.bel hb)
  clear hb HZ HT ht hpr hta HGE
  rw [List.length_map]
  have y0 : w1.cell? ⟨w.heap.size + 1, 0, none⟩ = some (.int .i64 0) := HZ1.out.aa.c 0 _ rfl
  have x0 : w1.cell? ⟨w.heap.size + 1 + 1, 0, none⟩ = some (.int .i64 0) := HZ1.out.xx.c 0 _ rfl
  have g0 := HZ1.out.aa.fz 0
  have k0 := HZ1.out.xx.fz 0
  clear hpa
  rw [List.length_nil] at hd1 ⊢
  have hW3 := HW3.out
  have hk1 := Kp.own w1 (w.heap.size + 1 + 1) 0 (.int .i64 0)
  have HZ2 := Lib.hid (HZ1.out.setX (Nat.le_refl _) (.int .i64 0))
  have HTA2 := Lib.hid (HTA.out.kp hk1 (by omega))
  have h9' : 12 ≤ w1.heap.size := HG1.out.size
  have HG2 := Lib.hid (HG1.out.kp hk1 (by omega))
  have hsz : w.heap.size + 1 + 1 < w1.heap.size := HZ1.out.xx.lt
  clear hk1 HZ1 HTA HG1
  obtain ⟨W2, hW2⟩ : ∃ W2, w1.setCell ⟨w.heap.size + 1 + 1, 0, none⟩ (.int .i64 0) = W2 := ⟨_, rfl⟩
  have hs2 : W2.heap.size = w1.heap.size := by rw [← hW2]; simp
  rw [hW2] at HZ2 HTA2 HG2
  obtain ⟨tb, off, hp1, hp⟩ := Psr.start HTA2.out HSM.out (by omega) hc1 hc2 (by omega)
  rw [hs2] at hp
  have HP3 := Lib.hid hp
  have hB3 := (Below.refl W2.heap.size W2).alloc (Nat.le_refl _) (.cells #[.slice p1 L.length cap1, .map none, .map none, .map none] 131)
  have HZ3 := Lib.hid (HZ2.out.bel hB3)
  have HG3 := Lib.hid (HG2.out.bel hB3)
  have x2 : W2.cell? ⟨w.heap.size + 1 + 1, 0, none⟩ = some (.int .i64 0) := HZ2.out.xx.c 0 _ rfl
  clear hB3 hp HZ2 HTA2 HG2 hp1
  go_wp2_with fail
  clear y0 x0 g0 k0 hW2 x2 hs2
  go_at_call 30
  refine (HC.out _ _ _ _ _ _ HP3.out).mono ?_
  generalize W2.alloc (.cells #[.slice p1 L.length cap1, .map none, .map none, .map none] 131) = W3 at *
  rintro e w4 ⟨rfl, hk⟩
  have HZE := Lib.hid (HZ3.out.kp hk (by omega) (by omega))
  clear HZ3 HG3 HP3 hk
  unfold failV
  go_wp2_with fail
  refine leaves_cons (f := 62) (args := #[.pointer (some ⟨w.heap.size + 1, 0, none⟩), .pointer (some ⟨w.heap.size + 1 + 1, 0, none⟩)]) (by simp) (by simp [go_sem]) ?_
  refine (catchK_panicking (w.heap.size + 1) (w.heap.size + 1 + 1) [] w4 _ _ (HZE.out.aa.c 0 _ rfl) (HZE.out.xx.c 0 _ rfl) (HZE.out.aa.fz 0) (HZE.out.xx.fz 0) (by omega) _ _).mono ?_
  rintro e u' w'' ⟨rfl, rfl, ht⟩
  obtain ⟨hB, hcc, a0, x0⟩ := HZE.out.two (Nat.le_refl _) ht
  have c0 := hcc.c 0 _ rfl
  have c1 := hcc.c 1 _ rfl
  have c2 := hcc.c 2 _ rfl
  have c3 := hcc.c 3 _ rfl
  have c4 := hcc.c 4 _ rfl
  have c5 := hcc.c 5 _ rfl
  have c6 := hcc.c 6 _ rfl
  have c7 := hcc.c 7 _ rfl
  have c8 := hcc.c 8 _ rfl
  have c9 := hcc.c 9 _ rfl
  have c10 := hcc.c 10 _ rfl
  have c11 := hcc.c 11 _ rfl
  have c12 := hcc.c 12 _ rfl
  have c13 := hcc.c 13 _ rfl
  have c14 := hcc.c 14 _ rfl
  have c15 := hcc.c 15 _ rfl
  clear hcc ht HZE
  simp [Leaves, settle, results, Tryz.results29, go_sem, c0, c1, c2, c3, c4, c5, c6, c7, c8, c9, c10, c11, c12, c13, c14, c15, a0, x0, hB]
  rfl

/-- "course a {" -/
def tCourse : Bs := [99, 111, 117, 114, 115, 101, 32, 97, 32, 123]
theorem tCourse_tokens : tokens tCourse = ([⟨1, wCourse, 0⟩, ⟨1, [97], 7⟩, ⟨5, [123], 9⟩, ⟨6, [], 10⟩], []) := by kernel_rfl
set_option maxHeartbeats 4000000 in
set_option maxRecDepth 100000 in
theorem course_short (w : World) (hGl : Gl w) (hG : GlE w) (B : Nat) (p : Option Addr) (cap : Nat) (hp : BAt w B p tCourse) :
    Calls Tryz.prog 12 #[.slice p 10 cap] w fun e w' => Below w.heap.size w w' ∧ e = .returned (.tuple #[.agg crsZ.toArray, .int .i64 10, .int .i64 60]) := by
  have hB := (Below.refl w.heap.size w).alloc (Nat.le_refl _) crsZero
  have HZ := Lib.hid (crsZero_new w)
  have HR : Hid (Calls Tryz.prog 29 #[.slice p 10 cap, .func (Fn.func 30) #[] #[]] (w.alloc crsZero) fun e w' => Below (w.alloc crsZero).heap.size (w.alloc crsZero) w' ∧ e = .returned (.tuple #[.agg crsZ.toArray, .int .i64 (10 : Nat), .int .i64 60])) := Lib.hid (readK_bad tCourse (by decide) (by rw [tCourse_tokens]) 10 60 _ (hGl.bel' hB) (hG.bel hB) B p cap (hp.bel hB (Nat.le_refl _)) fun wx pb tb off cap M hx => by
      rw [tCourse_tokens] at hx
      exact course_bad 10 60 [97] wx pb tb off cap M _ hx rfl rfl rfl rfl)
  have HB := Lib.hid hB
  clear hGl hG hp hB
  unfold crsZero crsZ at HR
  go_enter Tryz.func12, Tryz.ntmps12
  go_wp2_with fail
  go_at_call 29
  refine HR.out.mono ?_
  rintro e w1 ⟨hb, rfl⟩
  have HZ1 := Lib.hid (HZ.out.bel hb)
  have HB1 := Lib.hid (HB.out.trans (hb.mono HB.out.size))
  clear hb HZ HB HR
  have z0 : w1.cell? ⟨w.heap.size, 0, none⟩ = some (.string ⟨#[]⟩) := HZ1.out.c 0 _ rfl
  have f0 := HZ1.out.fz 0
  have z1 : w1.cell? ⟨w.heap.size, 1, none⟩ = some (.slice none 0 0) := HZ1.out.c 1 _ rfl
  have f1 := HZ1.out.fz 1
  have z2 : w1.cell? ⟨w.heap.size, 2, none⟩ = some (.slice none 0 0) := HZ1.out.c 2 _ rfl
  have f2 := HZ1.out.fz 2
  have z3 : w1.cell? ⟨w.heap.size, 3, none⟩ = some (.slice none 0 0) := HZ1.out.c 3 _ rfl
  have f3 := HZ1.out.fz 3
  have z4 : w1.cell? ⟨w.heap.size, 4, none⟩ = some (.slice none 0 0) := HZ1.out.c 4 _ rfl
  have f4 := HZ1.out.fz 4
  have z5 : w1.cell? ⟨w.heap.size, 5, none⟩ = some (.slice none 0 0) := HZ1.out.c 5 _ rfl
  have f5 := HZ1.out.fz 5
  have z6 : w1.cell? ⟨w.heap.size, 6, none⟩ = some (.slice none 0 0) := HZ1.out.c 6 _ rfl
  have f6 := HZ1.out.fz 6
  have z7 : w1.cell? ⟨w.heap.size, 7, none⟩ = some (.slice none 0 0) := HZ1.out.c 7 _ rfl
  have f7 := HZ1.out.fz 7
  have z8 : w1.cell? ⟨w.heap.size, 8, none⟩ = some (.slice none 0 0) := HZ1.out.c 8 _ rfl
  have f8 := HZ1.out.fz 8
  have z9 : w1.cell? ⟨w.heap.size, 9, none⟩ = some (.int .i64 0) := HZ1.out.c 9 _ rfl
  have f9 := HZ1.out.fz 9
  have z10 : w1.cell? ⟨w.heap.size, 10, none⟩ = some (.int .i64 0) := HZ1.out.c 10 _ rfl
  have f10 := HZ1.out.fz 10
  have z11 : w1.cell? ⟨w.heap.size, 11, none⟩ = some (.int .i64 0) := HZ1.out.c 11 _ rfl
  have f11 := HZ1.out.fz 11
  have z12 : w1.cell? ⟨w.heap.size, 12, none⟩ = some (.int .i64 0) := HZ1.out.c 12 _ rfl
  have f12 := HZ1.out.fz 12
  have z13 : w1.cell? ⟨w.heap.size, 13, none⟩ = some (.int .i64 0) := HZ1.out.c 13 _ rfl
  have f13 := HZ1.out.fz 13
  have z14 : w1.cell? ⟨w.heap.size, 14, none⟩ = some (.int .i64 0) := HZ1.out.c 14 _ rfl
  have f14 := HZ1.out.fz 14
  have z15 : w1.cell? ⟨w.heap.size, 15, none⟩ = some (.int .i64 0) := HZ1.out.c 15 _ rfl
  have f15 := HZ1.out.fz 15
  have HY := (putL_cells HZ1.out crsZ rfl).c
  have HE := Lib.hid (show Below w.heap.size w (putL w1 w.heap.size 0 crsZ) from HB1.out.trans ((putL_kp w.heap.size crsZ 0 w1).below (Nat.le_refl _) HB1.out.size))
  unfold crsZ at HY
  simp only [putL, Nat.zero_add, Nat.reduceAdd] at HY
  have c0 := HY 0 _ rfl
  have c1 := HY 1 _ rfl
  have c2 := HY 2 _ rfl
  have c3 := HY 3 _ rfl
  have c4 := HY 4 _ rfl
  have c5 := HY 5 _ rfl
  have c6 := HY 6 _ rfl
  have c7 := HY 7 _ rfl
  have c8 := HY 8 _ rfl
  have c9 := HY 9 _ rfl
  have c10 := HY 10 _ rfl
  have c11 := HY 11 _ rfl
  have c12 := HY 12 _ rfl
  have c13 := HY 13 _ rfl
  have c14 := HY 14 _ rfl
  have c15 := HY 15 _ rfl
  clear HY HZ1 HB1
  have HC := Lib.hid (And.intro c0 (And.intro c1 (And.intro c2 (And.intro c3 (And.intro c4 (And.intro c5 (And.intro c6 (And.intro c7 (And.intro c8 (And.intro c9 (And.intro c10 (And.intro c11 (And.intro c12 (And.intro c13 (And.intro c14 c15)))))))))))))))
  clear c0 c1 c2 c3 c4 c5 c6 c7 c8 c9 c10 c11 c12 c13 c14 c15
  go_wp2_with fail
  obtain ⟨c0, c1, c2, c3, c4, c5, c6, c7, c8, c9, c10, c11, c12, c13, c14, c15⟩ := HC.out
  refine bodyPost_ret (v := .tuple #[.agg crsZ.toArray, .int .i64 10, .int .i64 60]) ?_ rfl ⟨HE.out, rfl⟩
  simp [results, Tryz.results12, go_sem, c0, c1, c2, c3, c4, c5, c6, c7, c8, c9, c10, c11, c12, c13, c14, c15]
  rfl
end Go.Proofs.YtdhdjfkknfbmhaaGreatDoor
