/- LexisOffsets: the law returns true for all arguments. -/
import Derived.Test.YtlcmedimgoaneaaGreatDoorKLaid
import Derived.Test.YtlcmedimgoaneaaGreatDoorKSane
import Derived.Test.YtlcmedimgoaneaaGreatDoorKOpen
import Derived.Test.YtlcmedimgoaneaaGreatDoorKMap
import Derived.BigQuiet
import Derived.Laws.IdiomStrings
import Derived.Test.YtlcmedimgoaneaaGreatDoorTie
import Derived.Test.YtlcmedimgoaneaaGreatDoorCards
import Derived.Deep.DeepHandedRow
import Derived.LaidMore
import Derived.LaidLaws
import Derived.Lay
import Derived.SevenTiedAt
import Derived.OpenShut
import Derived.ShutString
import Derived.Deep.Light
namespace Go.Proofs.YtlcmedimgoaneaaGreatDoor.lexisOffsets
open Go.ChangeShapes Go.WideShapes Go.ChangeAt Go.RowKit Go.ChangeMaps Go.Maps

theorem own : ownKnob Tryz.prog.godebug = none := by kernel_rfl

theorem pair_lt {l : List Nat} (h : l.Pairwise (· < ·)) {i j : Nat} (hj : j < l.length) (hij : i < j) : l[i]'(by omega) < l[j] := List.pairwise_iff_getElem.1 h i j _ hj hij
/-- What the law asks of the k-th token and of the k-th problem. -/
structure TkAt (l : Bs) (L : List Tk) (B : List Nat) (k : Nat) (h : k + 1 < L.length) : Prop where
  lt : (L[k]'(by omega)).a < l.length
  nx : (L[k]'(by omega)).a < L[k + 1].a
  n6 : (L[k]'(by omega)).k ≠ 6
  q : (L[k]'(by omega)).k = 4 → l[(L[k]'(by omega)).a]? = some 34
  tx : (L[k]'(by omega)).k ≠ 4 → (L[k]'(by omega)).t ≠ [] ∧ (L[k]'(by omega)).a + (L[k]'(by omega)).t.length ≤ l.length ∧ (l.drop (L[k]'(by omega)).a).take (L[k]'(by omega)).t.length = (L[k]'(by omega)).t
  no : ∀ z ∈ B, (z : Int) ≠ (L[k]'(by omega)).a
theorem tk_at (l : Bs) (k : Nat) (h : k + 1 < (tokens l).1.length) : TkAt l (tokens l).1 (tokens l).2 k h := by
  have hall := tokens_all l
  obtain ⟨L0, e1, e2, _, _⟩ := hall.ex
  have hk : k < L0.length := by rw [e1, List.length_append, List.length_singleton] at h; omega
  have he : (tokens l).1[k]'(by omega) = L0[k] := by
    have h1 : (tokens l).1[k]? = L0[k]? := by rw [e1, List.getElem?_append_left hk]
    rw [List.getElem?_eq_getElem (by omega), List.getElem?_eq_getElem hk] at h1
    exact Option.some.inj h1
  have hx := e2 L0[k] (List.getElem_mem _)
  have hn := pair_lt hall.inc (i := k) (j := k + 1) (by simpa using h) (by omega)
  rw [List.getElem_map, List.getElem_map] at hn
  rw [← he] at hx
  exact ⟨hx.lt, hn, hx.n6, hx.q, hx.tx, fun z hz e => hall.dis z hz ((tokens l).1[k]'(by omega)) (List.getElem_mem _) (Int.ofNat_inj.1 e).symm⟩
/-- A part of a row of bytes, as a text. -/
theorem BAt.part {w : World} {B b off : Nat} {l : Bs} (h : BAt w B (some ⟨b, off, none⟩) l) (i n : Nat) (hi : i + n ≤ l.length) (hn : 0 < n) (c : Nat) :
    (convert 22 9 (.slice (some ⟨b, off + i, none⟩) n c)).run Tryz.prog w = .ok (.string (S ((l.drop i).take n))) w := by
  obtain ⟨b', o', e, hB, hlt, hc⟩ := h.at' (by intro h; rw [h] at hi; simp at hi; omega)
  cases e
  have hl : ((l.drop i).take n).length = n := by rw [List.length_take, List.length_drop]; omega
  have hp : BAt w B (some ⟨b, off + i, none⟩) ((l.drop i).take n) := ⟨fun _ => ⟨b, off + i, rfl, hB, hlt, fun j hj => by
    rw [hl] at hj
    have := hc (i + j) (by omega)
    rw [Nat.add_assoc, this, List.getElem_take, List.getElem_drop]⟩⟩
  have := hp.str c
  rwa [hl] at this
set_option maxHeartbeats 4000000 in
set_option maxRecDepth 100000 in
theorem walk (w : World) (hG : Gl w) (l : Bs) (r0 : Option Addr) (c0 : Nat) (s0 : BAt w 0 r0 l) (m0 : l.length ≤ c0) (_ : c0 ≤ 9223372036854775807) (l0 : l.length ≤ 140737488351232) :
    Calls Tryz.prog 7 #[.slice r0 l.length c0] w fun e w' => e = .returned (.bool true) ∧ Below w.heap.size w w' := by
  have HG := Lib.hid hG
  have HS := Lib.hid (sane_any w hG)
  clear hG
  by_cases hl : 3000 < l.length
  · have hli : (3000 : Int) < (l.length : Int) := by omega
    clear s0
    go_enter Tryz.func7, Tryz.ntmps7
    go_wp2_with fail
    go_at_call 11
    refine HS.out.mono ?_
    rintro e w1 ⟨rfl, hb'⟩
    have HB1 := Lib.hid hb'; clear hb'
    go_wp2_with fail
    go_ret
    exact ⟨rfl, HB1.out⟩
  · have hli : ¬ (3000 : Int) < (l.length : Int) := by omega
    obtain ⟨hsm1, hsm2⟩ := tokens_small l
    have hall := tokens_all l
    obtain ⟨L0, e1, -, -, -⟩ := hall.ex
    have hmany := hall.many (by omega)
    have hbin := hall.binc
    have hbge := hall.bge
    have hTA := Lib.hid (tk_at l)
    have hTS := Lib.hid (fun w1 (hb : Below w.heap.size w w1) => tokens_ok l (by omega) w1 (HG.out.bel' hb) 0 r0 c0 (s0.bel hb (Nat.le_refl _)))
    generalize (tokens l).2 = B at *
    generalize (tokens l).1 = L at *
    obtain ⟨n, hLn⟩ : ∃ n, L.length = n + 1 := ⟨L0.length, by rw [e1]; simp⟩
    have hlast : L[n]'(by omega) = ⟨6, [], l.length⟩ := by
      have hn : n = L0.length := by rw [e1] at hLn; simpa using hLn.symm
      subst e1
      subst hn
      simp
    have hLni : (((n : Int) + 1) == 0) = false := beq_eq_false_iff_ne.2 (by omega)
    have HT1 : Hid (∀ w1, Below w.heap.size w w1 → Calls Tryz.prog 12 #[.slice r0 l.length c0] w1 fun e w' => Below w1.heap.size w1 w' ∧
        ∃ tb tof c1 q1 d1, e = .returned (.tuple #[.slice (some ⟨tb, tof, none⟩) (n + 1 : Nat) c1, .slice q1 B.length d1, .int .i64 0]) ∧ tb < w'.heap.size ∧ TAt w' w1.heap.size (some ⟨tb, tof, none⟩) (L.map Tk.tok) ∧ PAt w' w1.heap.size q1 B ∧ n + 1 ≤ c1) := Lib.hid fun w1 hb => by
      refine (hTS.out w1 hb).mono ?_
      rintro e w2 ⟨hb2, v1, v2, rfl, ht, hp⟩
      obtain ⟨p1, c1, hv, hT, hc, hm, _⟩ := ht.reads (by rw [List.length_map]; omega) (by
        intro x hx
        obtain ⟨y, hy, rfl⟩ := List.mem_map.1 hx
        have := hsm2 y hy
        show y.t.length ≤ _
        omega)
      rw [List.length_map, hLn] at hv hc
      obtain ⟨q1, d1, hv2, hP, -, -⟩ := hp.reads
      subst hv hv2
      obtain ⟨tb, tof, rfl, hh1, hh2, hh3⟩ := hT.at' (by
        intro h
        have := congrArg List.length h
        rw [List.length_map, List.length_nil] at this; omega)
      exact ⟨hb2, tb, tof, c1, q1, d1, rfl, hh2, hT, hP, hc⟩
    have hnb : n ≤ 3000 := by omega
    clear hsm1 hall e1 hTS
    have hmm := @run_makeMap Tryz.prog
    go_enter Tryz.func7, Tryz.ntmps7
    go_wp2_with fail
    go_at_call 11
    refine HS.out.mono ?_
    rintro e w1 ⟨rfl, hb'⟩
    have HB1 := Lib.hid hb'; clear hb'
    go_wp2_with fail
    go_at_call 12
    refine (HT1.out _ HB1.out).mono ?_
    rintro e w2 ⟨hb', tb, tof, c1, q1, d1, rfl, htb, hT, hP, hc1⟩
    have HB2 := Lib.hid (HB1.out.trans (hb'.mono HB1.out.size)); clear hb'
    have HS0 := Lib.hid (s0.bel HB2.out (Nat.le_refl _))
    have HTT := Lib.hid hT
    have HPP := Lib.hid hP
    clear hT hP s0
    obtain ⟨b1, o1, hba, -, -, hc⟩ := HTT.out.at' (by
        intro h
        have := congrArg List.length h
        rw [List.length_map, List.length_nil] at this; omega)
    cases hba
    obtain ⟨z0, z1, z2⟩ := hc n (by rw [List.length_map]; omega)
    rw [List.getElem_map, hlast] at z0 z1 z2
    simp only [Tk.tok] at z0 z1 z2
    clear hc hlast
    have HW0 := Lib.hid (World.ownsMap_made w2 Tryz.prog 3 (plainElem (H := Unit) Tryz.prog 4))
    have HA0 := Lib.hid ((Below.refl w2.heap.size w2).alloc (Nat.le_refl _) (.map #[] 0))
    have hmbi : ¬ (64 : Int) < (B.length : Int) := by omega
    go_wp2_with fail
    go_loopw [7] (fun i wr => ∃ (k m : Nat) (D : DataW Unit), k ≤ n ∧ i = .int .i64 k ∧ m ≤ k ∧ Hid (wr.ownsMap Tryz.prog 3 (plainElem (H := Unit) Tryz.prog 4) w2.heap.size m D) ∧ Hid (Lacks D B) ∧ Hid (Below w2.heap.size w2 wr)) (fun i _ => n - (intOf i).toNat)
    case atStart => exact ⟨0, 0, .map [], Nat.zero_le _, rfl, Nat.le_refl _, HW0, Lib.hid (Lacks.start B), HA0⟩
    case round =>
      obtain ⟨k, m, D, hk, rfl, hmk, HOW, HLK, HBW⟩ := hrel
      clear z0 z1 z2
      by_cases hlt : k < n
      · have hlti : (k : Int) < (n : Int) := by omega
        obtain ⟨b1, o1, hba, -, -, hc⟩ := (HTT.out.bel HBW.out (Nat.le_refl _)).at' (by
          intro h
          have := congrArg List.length h
          rw [List.length_map, List.length_nil] at this; omega)
        cases hba
        obtain ⟨y0, y1, y2⟩ := hc k (by rw [List.length_map]; omega)
        obtain ⟨-, -, v2⟩ := hc (k + 1) (by rw [List.length_map]; omega)
        rw [List.getElem_map] at y0 y1 y2 v2
        simp only [Tk.tok] at y0 y1 y2 v2
        obtain ⟨f1, f2, f3, f4, f5, f6⟩ := hTA.out k (by omega)
        have f7 := hsm2 (L[k]'(by omega)) (List.getElem_mem _)
        clear hc
        generalize (L[k + 1]'(by omega)).a = ya at *
        generalize L[k]'(by omega) = x at *
        have g1 : decide ((x.a : Int) < 0) = false := decide_eq_false (by omega)
        have g2 : decide (l.length ≤ x.a) = false := decide_eq_false (by omega)
        have g3 : decide (ya ≤ x.a) = false := decide_eq_false (by omega)
        have g5 : IntKind.i64.wrap ((k : Int) + 1) = (k : Int) + 1 := by rw [IntKind.wrap_i64]; omega
        have g4 : (x.k == 6) = false := beq_eq_false_iff_ne.2 f3
        have hsx := S_size x.t
        have HLK2 := Lib.hid (HLK.out.put x.a f6 (.lit (.bool true)))
        have hlt1 := HOW.out.lt
        have hwf : (Lit.int .i64 (x.a : Int)).wf = true := WalkArith.wf_i64 ⟨by omega, by omega⟩
        have e0 : (wr.alloc (.cells #[.int .i64 x.k, .string (S x.t), .int .i64 x.a] 38)).cell? ⟨wr.heap.size, 0, none⟩ = some (.int .i64 x.k) := by simp [go_sem]
        have e1 : (wr.alloc (.cells #[.int .i64 x.k, .string (S x.t), .int .i64 x.a] 38)).cell? ⟨wr.heap.size, 1, none⟩ = some (.string (S x.t)) := by simp [go_sem]
        have e2 : (wr.alloc (.cells #[.int .i64 x.k, .string (S x.t), .int .i64 x.a] 38)).cell? ⟨wr.heap.size, 2, none⟩ = some (.int .i64 x.a) := by simp [go_sem]
        have HOWA := Lib.hid (HOW.out.alloc (.cells #[.int .i64 x.k, .string (S x.t), .int .i64 x.a] 38))
        have HBA := Lib.hid (HBW.out.alloc HBW.out.size (.cells #[.int .i64 x.k, .string (S x.t), .int .i64 x.a] 38))
        have hsA : wr.heap.size < (wr.alloc (.cells #[.int .i64 x.k, .string (S x.t), .int .i64 x.a] 38)).heap.size := by simp
        have e3 : (wr.alloc (.cells #[.int .i64 x.k, .string (S x.t), .int .i64 x.a] 38)).cell? ⟨tb, tof + (k + 1) * 3 + 2, none⟩ = some (.int .i64 ya) := (((Below.refl wr.heap.size wr).alloc (Nat.le_refl _) _).cell (p := ⟨tb, _, none⟩) (show tb < wr.heap.size by omega)).trans v2
        go_wp2_with fail
        generalize (wr.alloc (.cells #[.int .i64 x.k, .string (S x.t), .int .i64 x.a] 38)) = wA at *
        clear y0 y1 y2 v2
        obtain ⟨sb, so, rfl, -, hsb, hsc⟩ := HS0.out.at' (by intro h; rw [h] at f1; simp at f1)
        have q0 := hsc x.a f1
        clear hsc
        by_cases hk4 : x.k = 4
        · have f4 := f4 hk4
          rw [List.getElem?_eq_getElem f1, Option.some.injEq] at f4
          rw [f4] at q0
          rw [hk4] at e0
          clear f5 f3 g4
          go_quiet (fail)
          go_wp2_with (first | (at_mapUpdate; refine wpList_mapUpdate_own _ rfl _ _ _ 39 rfl 3 4 lawK Tryz.underlying39 _ w2.heap.size m D rfl (HOWA.out) (by unfold maxLen; omega) _ _ _ rfl rfl (keyOf_int_mk Tryz.underlying3 hwf) _ [] (plainB true) ?_; intro w3 hown3 hgrow3; have k0 : w3.cell? ⟨wr.heap.size, 0, none⟩ = some (.int .i64 4) := hgrow3.cell e0 (by simp; omega); have k2 : w3.cell? ⟨wr.heap.size, 2, none⟩ = some (.int .i64 x.a) := hgrow3.cell e2 (by simp; omega); have HOW3 := Lib.hid hown3; have HB3 : Hid (Below w2.heap.size w2 w3) := Lib.hid (HBA.out.trans ⟨hgrow3.os, hgrow3.tape, hgrow3.output, hgrow3.size, fun b hb => hgrow3.block b (by have := HBA.out.size; show b < wA.heap.size; omega) (by simp; omega)⟩); have q1 : w3.cell? ⟨sb, so + x.a, none⟩ = some (.int .u8 34) := (HB3.out.cell (p := ⟨sb, _, none⟩) hsb).trans q0; clear hown3 hgrow3) | go_in)
          go_roundw
          case rel => exact ⟨k + 1, m + 1, _, by omega, by go_num, by omega, HOW3, HLK2, HB3⟩
          case measure => simp [intOf]; omega
        · have hk4b : (x.k == 4) = false := beq_eq_false_iff_ne.2 hk4
          obtain ⟨f51, f52, f53⟩ := f5 hk4
          have hpos : 0 < x.t.length := List.length_pos_iff.2 f51
          have hne := S_ne x.t hpos
          have i1 : IntKind.i64.wrap ((x.a : Int) + (x.t.length : Int)) = (x.a : Int) + (x.t.length : Int) := by rw [IntKind.wrap_i64]; omega
          have i2 : decide (l.length < x.a + x.t.length) = false := decide_eq_false (by omega)
          have i3 : decide ((l.length : Int) < (x.a : Int) + (x.t.length : Int)) = false := decide_eq_false (by omega)
          go_quiet (fail)
          go_wp2_with (first | (at_mapUpdate; refine wpList_mapUpdate_own _ rfl _ _ _ 39 rfl 3 4 lawK Tryz.underlying39 _ w2.heap.size m D rfl (HOWA.out) (by unfold maxLen; omega) _ _ _ rfl rfl (keyOf_int_mk Tryz.underlying3 hwf) _ [] (plainB true) ?_; intro w3 hown3 hgrow3; have k0 : w3.cell? ⟨wr.heap.size, 0, none⟩ = some (.int .i64 x.k) := hgrow3.cell e0 (by simp; omega); have k1 : w3.cell? ⟨wr.heap.size, 1, none⟩ = some (.string (S x.t)) := hgrow3.cell e1 (by simp; omega); have k2 : w3.cell? ⟨wr.heap.size, 2, none⟩ = some (.int .i64 x.a) := hgrow3.cell e2 (by simp; omega); have HOW3 := Lib.hid hown3; have HB3 : Hid (Below w2.heap.size w2 w3) := Lib.hid (HBA.out.trans ⟨hgrow3.os, hgrow3.tape, hgrow3.output, hgrow3.size, fun b hb => hgrow3.block b (by have := HBA.out.size; show b < wA.heap.size; omega) (by simp; omega)⟩); clear hown3 hgrow3) | go_in)
          have HBD := Lib.hid (fun nn => HB3.out.trans (⟨rfl, rfl, rfl, Nat.le_refl _, fun _ _ => rfl⟩ : Below w2.heap.size w3 (w3.drewN nn)))
          have hcv := fun nn c => BAt.part (HS0.out.bel (HBD.out nn) (Nat.le_refl _)) x.a x.t.length f52 hpos c
          rw [f53] at hcv
          go_quiet (fail)
          go_wp2_with fail
          go_roundw
          case rel => exact ⟨k + 1, m + 1, _, by omega, by go_num, by omega, Lib.hid HOW3.out, HLK2, Lib.hid (HBD.out _)⟩
          case measure => simp [intOf]; omega
      · have hlti : ¬ (k : Int) < (n : Int) := by omega
        have HOWS := HOW
        go_wp2_with fail
        go_loopw [9] (fun i wr => ∃ j : Nat, j ≤ B.length ∧ i = .int .i64 j ∧ Hid (wr.ownsMap Tryz.prog 3 (plainElem (H := Unit) Tryz.prog 4) w2.heap.size m D) ∧ Hid (Below w2.heap.size w2 wr)) (fun i _ => B.length - (intOf i).toNat)
        case atStart => exact ⟨0, Nat.zero_le _, rfl, HOWS, HBW⟩
        case round =>
          obtain ⟨j, hj, rfl, HOQ, HBQ⟩ := hrel
          by_cases hjl : j < B.length
          · have hjli : (j : Int) < (B.length : Int) := by omega
            obtain ⟨qb, qo, rfl, -, hqb, hqc⟩ := (HPP.out.bel HBQ.out (Nat.le_refl _)) (by intro h; rw [h] at hjl; simp at hjl)
            obtain ⟨z0, z1⟩ := hqc j hjl
            have hzl := (hbge B[j] (List.getElem_mem _)).2
            have hlk := Lib.hid (HLK.out B[j] (List.getElem_mem _))
            have g2 : decide (l.length ≤ B[j]) = false := decide_eq_false (by omega)
            have g1 : decide ((B[j] : Int) < 0) = false := decide_eq_false (by omega)
            have hwf : (Lit.int .i64 (B[j] : Int)).wf = true := WalkArith.wf_i64 ⟨by omega, by omega⟩
            have hlook := fun nn => look_no (w := wr.drewN nn) (b := w2.heap.size) (n := m) (D := D) HOQ.out (B[j] : Int) hwf hlk.out
            have HBD := Lib.hid (fun nn => HBQ.out.trans (⟨rfl, rfl, rfl, Nat.le_refl _, fun _ _ => rfl⟩ : Below w2.heap.size wr (wr.drewN nn)))
            clear HT1 hTA HPP HTT HS0 HG HS hsm2
            cases j with
            | zero =>
              clear hqc
              simp only [Nat.zero_mul, Nat.add_zero] at z0 z1
              generalize B[0] = z at *
              go_wp2_with fail
              go_quiet (fail)
              go_wp2_with fail
              go_roundw
              case rel => exact ⟨1, by omega, by go_num, Lib.hid HOQ.out, Lib.hid (HBD.out _)⟩
              case measure => simp [intOf]; omega
            | succ j =>
              obtain ⟨zz0, -⟩ := hqc j (by omega)
              have hlt := pair_lt hbin hjl (Nat.lt_succ_self j)
              have g3 : decide (B[j + 1] ≤ B[j]'(by omega)) = false := decide_eq_false (by omega)
              have g4 : (0 : Int) < (j : Int) + 1 := by omega
              have g5 : (j : Int) + 1 < (B.length : Int) := by omega
              have g6 : (j : Int) < (B.length : Int) := by omega
              have g7 : (0 : Int) ≤ (j : Int) + 1 := by omega
              clear hqc
              generalize B[j + 1] = z at *
              generalize B[j]'(by omega) = zy at *
              go_wp2_with fail
              go_quiet (fail)
              go_wp2_with fail
              go_roundw
              case rel => exact ⟨j + 2, by omega, by go_num, Lib.hid HOQ.out, Lib.hid (HBD.out _)⟩
              case measure => simp [intOf]; omega
          · have hjli : ¬ (j : Int) < (B.length : Int) := by omega
            go_wp2_with fail
            go_ret
            exact ⟨rfl, HB2.out.trans (HBQ.out.mono HB2.out.size)⟩


theorem witness (os : Os) {H : Type} (enc : TypeId × Value → H) :
    ∃ (w : World) (tape : Tape) (i : Input), w.os = os ∧ (w.forCall tape i).Shaped Tryz.checked.prog ∧ i.vars = [] ∧ Input.okWide Tryz.checked.prog (w.forCall tape i) .any w.heap.size 7 i ∧
      ((Rows.lexisOffsetsSpec.pre enc Tryz.checked.prog Tryz.f7 Rows.lexisOffsetsRow.domain false (w.forCall tape i).memory i.args ∧ laidMetH Tryz.prog Rows.lexisOffsetsRow.laid (w.forCall tape i).memory) ∧ sizedMet enc Tryz.checked.prog Tryz.f7 (OpenSpec.ofChange Rows.lexisOffsetsSpec) false (w.forCall tape i).memory i.args) ∧ ({ modest := false } : Assume).holds Tryz.checked.prog (lone (Frame.enter Tryz.checked.prog 7 i.args .normal) [] (w.forCall tape i)) :=
  ChangeSpec.witness_shaped (enc := enc) (C := Tryz.checked) (os := os) (X := fun w _ => laidMetH Tryz.prog Rows.lexisOffsetsRow.laid w) false (World.laidAll Tryz.prog os Rows.lexisOffsetsRow.laid) #[.slice none 0 0] 8 (World.laidAll_os _ _ _)
    (World.shaped_of_ZipB (by kernel_rfl) (by kernel_rfl)) (by kernel_rfl) (by kernel_rfl) (by kernel_rfl)
    (by rw [MakeChecks.laidMetH_plain _ _ _ (by kernel_rfl)]; exact laidMet_laidAll _ (by kernel_rfl) (by kernel_rfl))

set_option maxHeartbeats 1000000 in
set_option maxRecDepth 100000 in
theorem lifted (os : Os) (started : os.Started) (H : Type) (enc : TypeId × Value → H) (F : Stop.Interp) :
    ReturnsInHanded {} Tryz.checked os 7 .any ((OpenSpec.ofChange Rows.lexisOffsetsSpec).preRow enc Tryz.prog Tryz.f7 Rows.lexisOffsetsRow.domain false Rows.lexisOffsetsRow.laid)
      (((OpenSpec.ofChange Rows.lexisOffsetsSpec).at F).post enc Tryz.prog Tryz.f7 false true false false) := by
  refine returnsInHanded_of_row (C := Tryz.checked) (s := OpenSpec.ofChange Rows.lexisOffsetsSpec) own started (by kernel_rfl) Tryz.func7 (witness os enc) ?_
  intro W base args ds gs before hval0 hW _ _ hsz0 hL hsh _
  have hsz : (DataW.weightsEach Tryz.prog (Tryz.f7.params.toList ++ (OpenSpec.ofChange Rows.lexisOffsetsSpec).bare.plain.varTypes Tryz.prog) (ds ++ gs)).all (· ≤ reachBytes) = true := hsz0
  clear hsz0
  have hval : ∀ (j : Nat) t v, Tryz.f7.params[j]? = some t → args[j]? = some v → Value.okWide Tryz.prog W .any base t v := hval0
  have hW' := hW
  obtain ⟨p, q, hA0, hV0, rfl, hfz, hnd⟩ := hW
  have hA : DataW.TrodAll enc Tryz.prog W 0 (fun _ => true) true Tryz.f7.params.toList args.toList ds p := hA0
  have hV : DataW.TrodVars enc Tryz.prog W (fun _ => true) [] gs q := hV0
  rw [Tryz.params7] at hA hval hsz
  obtain ⟨v0, d0, rfl, rfl, h0⟩ := trodAll_one hA
  obtain ⟨rfl, rfl⟩ := trodVars_none hV
  have h0k := h0
  have sz0 : ∀ n ∈ d0.weights Tryz.prog 22, n ≤ reachBytes := fun n hn => by
    have := List.all_eq_true.1 hsz n (DataW.weights_mem_each (j := 0) (t := 22) (d := d0) rfl rfl n hn)
    simpa using this
  obtain ⟨u0, r0, c0, rfl, s0, m0, n0, l0⟩ := open_bytes (hval 0 22 v0 rfl rfl) h0 sz0
  clear hA0 hV0 hval0
  simp only [List.append_nil] at hW'
  have lt0 : ∀ y ∈ p, y.block < W.heap.size := fun y hy => by simpa using hW'.lt y (by simp [hy])
  refine (walk W (of_laid hL hsh) u0 r0 c0 s0 m0 n0 l0).mono fun e W' ⟨he, hg⟩ => ?_
  subst he
  exact ⟨_, rfl, _, _, _, [], _, [], hW', trodAll_mk1 (shut_bool Tryz.underlying4 _), trodAll_mk1 (Below.trod laidOut (by kernel_rfl) (of_decide_eq_true (by kernel_rfl)) h0k hg lt0), rfl, hg.frame _, fun h => by cases h⟩

theorem over : Rows.LexisOffsetsSaid :=
  OpenClaim.holds_of_cond 7 Tryz.f7 rfl rfl rfl rfl rfl rfl rfl ⟨rfl, rfl, rfl, rfl, rfl⟩ rfl rfl rfl rfl rfl (by kernel_rfl) Tryz.func7 (by kernel_rfl)
    (of_decide_eq_true (by kernel_rfl)) (by unfold Func.isWrapper; first | (rw [if_pos (by decide +kernel)]; kernel_rfl) | (rw [if_neg (by decide +kernel)]; exact ⟨rfl, rfl⟩))
    (fun os started H enc _ F0 => by rw [OpenClaim.pre_eq_preRow]; exact lifted os started H enc F0)

/-- THE STATEMENT: the tied card. -/
theorem proved : Rows.LexisOffsetsCardSaid :=
  Claim7.holds_tied_plain_at .later [] Rows.lexisOffsetsCard.laidKinds true Rows.lexisOffsetsCard.stood.harness false
    over (fun _ h => by cases h) (by kernel_rfl) (fun _ h => by cases h) lexisOffsets_row_tie rfl ⟨rfl, rfl⟩ (by kernel_rfl) rfl
    (fun f fn hf hfn => by
      obtain rfl : f = 7 := Option.some.inj ((show Tryz.prog.funcNamed "stopwatch/stopwatchlaw05.LexisOffsets" = some 7 by kernel_rfl).symm.trans hf) |>.symm
      obtain rfl : fn = Tryz.f7 := (Option.some.inj (Tryz.func7.symm.trans hfn)).symm
      exact ⟨by kernel_rfl, fun j t ht => by
        rw [Tryz.params7] at ht
        have hm : t ∈ [22] := by simpa using Array.mem_of_getElem? ht
        have hall : ([22].all fun u => !Tryz.prog.wantsStandIn u) = true := by kernel_rfl
        exact (show Tryz.prog.wantsStandIn t = false by simpa using List.all_eq_true.1 hall t hm)⟩)
    (by kernel_rfl)
#print axioms proved
end Go.Proofs.YtlcmedimgoaneaaGreatDoor.lexisOffsets
