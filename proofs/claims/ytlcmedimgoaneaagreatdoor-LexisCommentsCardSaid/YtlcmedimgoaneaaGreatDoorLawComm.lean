/- LexisComments: the law returns true for all arguments. -/
import Derived.Test.YtlcmedimgoaneaaGreatDoorKLaid
import Derived.Test.YtlcmedimgoaneaaGreatDoorKSane
import Derived.Test.YtlcmedimgoaneaaGreatDoorKOpen
import Derived.Test.YtlcmedimgoaneaaGreatDoorKAlike
import Derived.Test.YtlcmedimgoaneaaGreatDoorKApp
import Derived.BigQuiet
import Derived.Laws.IdiomStrings
import Derived.Test.YtlcmedimgoaneaaGreatDoorTie
import Derived.Test.YtlcmedimgoaneaaGreatDoorCards
import Derived.Deep.DeepHandedRow
import Derived.LaidMore
import Derived.LaidLaws
import Derived.Lay
import Derived.SevenTiedAt
import Derived.OpenShut
import Derived.ShutString
import Derived.Deep.Light
namespace Go.Proofs.YtlcmedimgoaneaaGreatDoor.lexisComments
open Go.ChangeShapes Go.WideShapes Go.ChangeAt Go.RowKit Go.ChangeMaps

theorem own : ownKnob Tryz.prog.godebug = none := by kernel_rfl

/-- What is left of the remark. -/
def fl (l : Bs) : Bs := l.filter fun c => c != 10 && c != 34
theorem fl_mem (l : Bs) : ∀ z ∈ fl l, z ≠ 34 ∧ z ≠ 10 := by
  intro z hz
  have := (List.mem_filter.1 hz).2
  simp only [Bool.and_eq_true, bne_iff_ne, ne_eq] at this
  exact ⟨this.2, this.1⟩
theorem fl_take {l : Bs} {j : Nat} (h : j < l.length) : fl (l.take (j + 1)) = fl (l.take j) ++ (if (l[j] != 10 && l[j] != 34) = true then [l[j]] else []) := by
  unfold fl
  rw [List.take_succ_eq_append_getElem h, List.filter_append, List.filter_cons, List.filter_nil]
theorem fl_len (l : Bs) : (fl l).length ≤ l.length := List.length_filter_le _ _
set_option maxHeartbeats 60000000 in
set_option maxRecDepth 100000 in
theorem walk (w : World) (hG : Gl w) (l : Bs) (r0 : Option Addr) (c0 : Nat) (s0 : BAt w 0 r0 l) (m0 : l.length ≤ c0) (_ : c0 ≤ 9223372036854775807) (_ : l.length ≤ 140737488351232) (nn : Int) (wf : (Lit.int .u64 nn).wf = true)
    (rk : Bs) (r2 : Option Addr) (c2 : Nat) (s2 : BAt w 0 r2 rk) (_ : rk.length ≤ c2) (_ : c2 ≤ 9223372036854775807) (_ : rk.length ≤ 140737488351232) :
    Calls Tryz.prog 8 #[.slice r0 l.length c0, .int .u64 nn, .slice r2 rk.length c2] w fun e w' => e = .returned (.bool true) ∧ Below w.heap.size w w' := by
  have HG := Lib.hid hG
  have HS := Lib.hid (sane_any w hG)
  clear hG
  by_cases hl : 2000 < l.length
  · have hli : (2000 : Int) < (l.length : Int) := by omega
    clear s0 s2
    go_enter Tryz.func8, Tryz.ntmps8
    go_wp2_with fail
    go_at_call 11
    refine HS.out.mono ?_
    rintro e w1 ⟨rfl, hb'⟩
    have HB1 := Lib.hid hb'; clear hb'
    go_wp2_with fail
    go_ret
    exact ⟨rfl, HB1.out⟩
  by_cases hr : 100 < rk.length
  · have hli : ¬ (2000 : Int) < (l.length : Int) := by omega
    have hri : (100 : Int) < (rk.length : Int) := by omega
    clear s0 s2
    go_enter Tryz.func8, Tryz.ntmps8
    go_wp2_with fail
    go_at_call 11
    refine HS.out.mono ?_
    rintro e w1 ⟨rfl, hb'⟩
    have HB1 := Lib.hid hb'; clear hb'
    go_wp2_with fail
    go_ret
    exact ⟨rfl, HB1.out⟩
  have hli : ¬ (2000 : Int) < (l.length : Int) := by omega
  have hri : ¬ (100 : Int) < (rk.length : Int) := by omega
  have hnn : 0 ≤ nn ∧ nn ≤ 18446744073709551615 := by
    simp [Lit.wf, IntKind.min, IntKind.max, IntKind.bits, IntKind.signed] at wf
    omega
  obtain ⟨hsm1, hsm2⟩ := tokens_small l
  have HREM := Lib.hid (fun x hx => tokens_rem l x hx (fl rk) (fl_mem rk))
  obtain ⟨L0, e1, -, -, -⟩ := (tokens_all l).ex
  have hle : ∀ x ∈ (tokens l).1, x.a ≤ l.length := by
    intro x hx
    have hall := (tokens_all l).ex
    obtain ⟨L1, q1, q2, _⟩ := hall
    rw [q1] at hx
    rcases List.mem_append.1 hx with h | h
    · exact Nat.le_of_lt (q2 x h).lt
    · rw [List.mem_singleton.1 h]; exact Nat.le_refl _
  have hTS := Lib.hid (fun w1 (hb : Below w.heap.size w w1) => tokens_ok l (by omega) w1 (HG.out.bel' hb) 0 r0 c0 (s0.bel hb (Nat.le_refl _)))
  generalize (tokens l).1 = L at *
  obtain ⟨m, hLm⟩ : ∃ m, L.length = m + 1 := ⟨L0.length, by rw [e1]; simp⟩
  have hmb : m ≤ 2000 := by omega
  have hLni : (((m : Int) + 1) == 0) = false := beq_eq_false_iff_ne.2 (by omega)
  obtain ⟨N, rfl⟩ : ∃ N : Nat, nn = (N : Int) := ⟨nn.toNat, by omega⟩
  obtain ⟨q, hq⟩ : ∃ q, N % (m + 1) = q := ⟨_, rfl⟩
  have hqm : q < m + 1 := by rw [← hq]; exact Nat.mod_lt _ (by omega)
  have hqi : (N : Int) % ((m : Int) + 1) = (q : Int) := by rw [← hq]; simp
  have hqt : (N : Int).tmod ((m : Int) + 1) = (q : Int) := by rw [← hqi]; exact Int.tmod_eq_emod_of_nonneg (by omega)
  have hw2 : IntKind.i64.wrap (q : Int) = (q : Int) := by rw [IntKind.wrap_i64]; omega
  have HT1 : Hid (∀ w1, Below w.heap.size w w1 → Calls Tryz.prog 12 #[.slice r0 l.length c0] w1 fun e w' => Below w1.heap.size w1 w' ∧
      ∃ tb tof c1 v2, e = .returned (.tuple #[.slice (some ⟨tb, tof, none⟩) (m + 1 : Nat) c1, v2, .int .i64 0]) ∧ tb < w'.heap.size ∧ TAt w' w1.heap.size (some ⟨tb, tof, none⟩) (L.map Tk.tok) ∧ m + 1 ≤ c1) := Lib.hid fun w1 hb => by
    refine (hTS.out w1 hb).mono ?_
    rintro e w2 ⟨hb2, v1, v2, rfl, ht, _⟩
    obtain ⟨p1, c1, hv, hT, hc, hm, _⟩ := ht.reads (by rw [List.length_map]; omega) (by
      intro x hx
      obtain ⟨y, hy, rfl⟩ := List.mem_map.1 hx
      have := hsm2 y hy
      show y.t.length ≤ _
      omega)
    rw [List.length_map, hLm] at hv hc
    subst hv
    obtain ⟨tb, tof, rfl, hh1, hh2, hh3⟩ := hT.at' (by
      intro h
      have := congrArg List.length h
      rw [List.length_map, List.length_nil] at this; omega)
    exact ⟨hb2, tb, tof, c1, v2, rfl, hh2, hT, hc⟩
  have hxq := hle (L[q]'(by omega)) (List.getElem_mem _)
  have HREM := Lib.hid (HREM.out (L[q]'(by omega)) (List.getElem_mem _))
  clear hsm1 e1 hTS hle
  go_enter Tryz.func8, Tryz.ntmps8
  go_wp2_with fail
  go_at_call 11
  refine HS.out.mono ?_
  rintro e w1 ⟨rfl, hb'⟩
  have HB1 := Lib.hid hb'; clear hb'
  go_wp2_with fail
  go_at_call 12
  refine (HT1.out _ HB1.out).mono ?_
  rintro e w2 ⟨hb', tb, tof, c1, v2, rfl, htb, hT, hc1⟩
  have HB2 := Lib.hid (HB1.out.trans (hb'.mono HB1.out.size)); clear hb'
  have HTT := Lib.hid hT
  clear hT
  obtain ⟨b1, o1, hba, -, -, hc⟩ := HTT.out.at' (by
      intro h
      have := congrArg List.length h
      rw [List.length_map, List.length_nil] at this; omega)
  cases hba
  obtain ⟨-, -, z2⟩ := hc q (by rw [List.length_map]; omega)
  rw [List.getElem_map] at z2
  simp only [Tk.tok] at z2
  clear hc
  generalize (L[q]'(by omega)).a = at' at *
  have g1 : decide ((at' : Int) < 0) = false := decide_eq_false (by omega)
  have g11 : ¬ ((at' : Int) < 0) := by omega
  have g2 : ¬ ((l.length : Int) < (at' : Int)) := by omega
  have hk1 : (l.take at').length = at' := by rw [List.length_take]; omega
  have hk2 : (l.drop at').length = l.length - at' := List.length_drop
  obtain ⟨X, hX⟩ : ∃ X, (l.take at') ++ [35] ++ fl rk ++ [10] ++ (l.drop at') = X := ⟨_, rfl⟩
  have hXe : l.take at' ++ remk (fl rk) (l.drop at') = X := by rw [← hX]; unfold remk; simp
  rw [hXe] at HREM
  have hXl : X.length ≤ 3000 := by
    have := fl_len rk
    rw [← hX]
    simp only [List.length_append, List.length_singleton, hk1, hk2]; omega
  obtain ⟨hxs1, hxs2⟩ := tokens_small X
  have HTX : Hid (∀ w1 B p c, Below w.heap.size w w1 → BAt w1 B p X → Calls Tryz.prog 12 #[.slice p X.length c] w1 fun e w' => Below w1.heap.size w1 w' ∧
      ∃ p1 c1 v2, e = .returned (.tuple #[.slice p1 (tokens X).1.length c1, v2, .int .i64 0]) ∧ TAt w' w1.heap.size p1 ((tokens X).1.map Tk.tok)) := Lib.hid fun w1 B p c hb hq => by
    refine (tokens_ok X (by omega) w1 (HG.out.bel' hb) B p c hq).mono ?_
    rintro e w2 ⟨hb2, v1, v2, rfl, ht, _⟩
    obtain ⟨p1, c1, hv, hT, -, -⟩ := reads_tokens (by omega) ht
    subst hv
    exact ⟨hb2, p1, c1, v2, rfl, hT⟩
  have HAX : Hid (∀ w1 B B' p' p c, TAt w1 B (some p') (L.map Tk.tok) → TAt w1 B' p ((tokens X).1.map Tk.tok) → Calls Tryz.prog 21 #[.slice (some p') (m + 1 : Nat) c1, .slice p (tokens X).1.length c] w1 fun e w' => e = .returned (.bool true) ∧ Below w1.heap.size w1 w') := Lib.hid fun w1 B B' p' p c h1 h2 => by
    have := alike_any (some p') p c1 c _ _ w1 B B' h1 h2
    rw [List.length_map, List.length_map, hLm, decide_eq_true] at this
    · exact this
    · rw [map_ktT, map_ktT, HREM.out]
  obtain ⟨nX, hnX⟩ : ∃ n, X.length = n := ⟨_, rfl⟩
  rw [hnX] at HTX
  have HNX := Lib.hid hnX
  clear HREM hXe hxs1 hxs2 hnX
  generalize (tokens X).1.map Tk.tok = TX at *
  generalize (tokens X).1.length = nx at *
  have hcases : (r0 = none ∧ Hid (∀ wx, Below w.heap.size w wx → BAt wx 0 none (l.take at')) ∧ Hid (∀ wx, Below w.heap.size w wx → BAt wx 0 none (l.drop at'))) ∨ ∃ b o s, r0 = some ⟨b, o, s⟩ ∧ Hid (∀ wx, Below w.heap.size w wx → BAt wx 0 (some ⟨b, o, s⟩) (l.take at')) ∧ Hid (∀ wx, Below w.heap.size w wx → BAt wx 0 (if c0 = at' then some ⟨b, o, s⟩ else some ((⟨b, o, s⟩ : Addr).add at')) (l.drop at')) := by
    by_cases h0 : l = []
    · subst h0
      cases r0 with
      | none => exact Or.inl ⟨rfl, Lib.hid fun wx _ => by rw [List.take_nil]; exact bat_nil _ _ _, Lib.hid fun wx _ => by rw [List.drop_nil]; exact bat_nil _ _ _⟩
      | some a => exact Or.inr ⟨a.block, a.off, a.spot, rfl, Lib.hid fun wx _ => by rw [List.take_nil]; exact bat_nil _ _ _, Lib.hid fun wx _ => by rw [List.drop_nil]; exact bat_nil _ _ _⟩
    · right
      obtain ⟨b, o, rfl, _, hb, _⟩ := s0.at' h0
      exact ⟨b, o, none, rfl, Lib.hid fun wx hx => (s0.bel hx (Nat.le_refl _)).take at', Lib.hid fun wx hx => by
        split
        · rw [List.drop_of_length_le (by omega)]; exact bat_nil _ _ _
        · rw [addr_add]; exact (s0.bel hx (Nat.le_refl _)).drop at'⟩
  rcases hcases with ⟨rfl, HA1, HA2⟩ | ⟨sb, so, ss, rfl, HA1, HA2⟩
  all_goals
    clear s0
    generalize l.take at' = t1 at *
    generalize l.drop at' = t2 at *
    subst hX
    have HRE := Lib.hid (row_empty w2)
    have HBE := Lib.hid (HB2.out.alloc HB2.out.size (.cells #[] 5))
    have HBE2 := Lib.hid ((Below.refl w2.heap.size w2).alloc (Nat.le_refl _) (.cells #[] 5))
    go_wp2_with (first | (refine wpList_appAtK rfl _ _ rfl w2.heap.size _ [] HRE.out rfl 0 _ t1 _ _ rfl hk1 (HA1.out _ HBE.out) (by simp; omega) HBE2.out.size ?_; intro v3 w3 hr3 hb3; have HB3 := Lib.hid (HBE2.out.trans hb3); have HR3 : Hid (Row w3 w2.heap.size v3 t1) := Lib.hid (by rw [List.nil_append] at hr3; exact hr3); have HR3A := Lib.hid (fun o => HR3.out.bel ((Below.refl w3.heap.size w3).alloc (Nat.le_refl _) o) (Nat.le_refl _)); have H31 := Lib.hid (Row.one w3 35); have HB3A := Lib.hid (fun o => HB3.out.alloc HB3.out.size o); clear hr3 hb3) | (refine wpList_appRow rfl _ _ rfl w2.heap.size _ t1 (HR3A.out _) rfl _ _ _ H31.out rfl Nat.zero_lt_one (by rw [List.length_singleton]; omega) (HB3A.out _).size ?_; intro v4 w4 hr4 hb4 hsz4; have HR4 := Lib.hid hr4; have HB42 := Lib.hid ((HB3A.out _).trans hb4); have HB4 := Lib.hid (HB2.out.trans (HB42.out.mono HB2.out.size)); clear hr4 hb4 hsz4))
    go_loopw [11, 12] (fun v i wr => ∃ j : Nat, j ≤ rk.length ∧ i = .int .i64 j ∧ Hid (Row wr w2.heap.size v (t1 ++ [35] ++ fl (rk.take j))) ∧ Hid (Below w2.heap.size w2 wr) ∧ Hid (Below w.heap.size w wr)) (fun _ i _ => rk.length - (intOf i).toNat)
    case atStart => exact ⟨0, Nat.zero_le _, rfl, Lib.hid (by have := HR4.out; simpa [fl] using this), HB42, HB4⟩
    case round =>
      obtain ⟨j, hj, rfl, HR, HBW, HB⟩ := hrel
      by_cases hlt : j < rk.length
      · have hlti : (j : Int) < (rk.length : Int) := by omega
        obtain ⟨rb, ro, rfl, -, -, hrc⟩ := (s2.bel HB.out (Nat.le_refl _)).at' (by intro h; rw [h] at hlt; simp at hlt)
        have y0 := hrc j hlt
        have HF := Lib.hid (fl_take hlt)
        have hfl := fl_len (rk.take j)
        rw [List.length_take] at hfl
        have hcb := byte_le (rk[j]'hlt)
        clear hrc
        generalize rk[j]'hlt = c at *
        by_cases h10 : c = 10
        · have e10 : (c.toNat : Int) = 10 := by rw [h10]; rfl
          have b10 : ((c.toNat : Int) != 10) = false := by rw [e10]; rfl
          have HF2 : Hid (fl (rk.take (j + 1)) = fl (rk.take j)) := Lib.hid (by rw [HF.out, h10]; simp)
          clear h10
          go_wp2_with fail
          go_roundw
          case rel => exact ⟨j + 1, by omega, by go_num, Lib.hid (by rw [HF2.out]; exact HR.out), HBW, HB⟩
          case measure => simp [intOf]; omega
        · have b10 : ((c.toNat : Int) == 10) = false := by
            rw [beq_int8 c 10 10 rfl]; simpa using h10
          have n10 : ((c.toNat : Int) != 10) = true := by rw [bne, b10]; rfl
          by_cases h34 : c = 34
          · have e34 : (c.toNat : Int) = 34 := by rw [h34]; rfl
            have b34 : ((c.toNat : Int) != 34) = false := by rw [e34]; rfl
            have HF2 : Hid (fl (rk.take (j + 1)) = fl (rk.take j)) := Lib.hid (by rw [HF.out, h34]; simp)
            clear h34 h10
            go_wp2_with fail
            go_roundw
            case rel => exact ⟨j + 1, by omega, by go_num, Lib.hid (by rw [HF2.out]; exact HR.out), HBW, HB⟩
            case measure => simp [intOf]; omega
          · have b34 : ((c.toNat : Int) == 34) = false := by
              rw [beq_int8 c 34 34 rfl]; simpa using h34
            have n34 : ((c.toNat : Int) != 34) = true := by rw [bne, b34]; rfl
            have HF2 : Hid (fl (rk.take (j + 1)) = fl (rk.take j) ++ [c]) := Lib.hid (by rw [HF.out]; simp [h10, h34])
            have HRA := Lib.hid (fun o => HR.out.bel ((Below.refl wr.heap.size wr).alloc (Nat.le_refl _) o) (Nat.le_refl _))
            have H1 := Lib.hid (Row.one wr c)
            have hn : (t1 ++ [35] ++ fl (rk.take j)).length + [c].length ≤ 10000000000000 := by rw [List.length_append, List.length_append, List.length_singleton, List.length_singleton]; omega
            have HBA := Lib.hid (fun o => HB.out.alloc HB.out.size o)
            have HBWA := Lib.hid (fun o => HBW.out.alloc HBW.out.size o)
            clear h34 h10
            go_wp2_with (refine wpList_appRow rfl _ _ rfl w2.heap.size _ _ (HRA.out _) rfl _ _ _ H1.out rfl Nat.zero_lt_one hn (HBWA.out _).size ?_; intro v5 w5 hr5 hb5 hsz5)
            have HR5 : Hid (Row w5 w2.heap.size v5 (t1 ++ [35] ++ fl (rk.take (j + 1)))) := Lib.hid (by rw [HF2.out, ← List.append_assoc]; exact hr5)
            have HB5 := Lib.hid ((HBWA.out _).trans hb5)
            have HB6 := Lib.hid (HB2.out.trans (HB5.out.mono HB2.out.size))
            go_round
            case rel => exact ⟨j + 1, by omega, by go_num, HR5, HB5, HB6⟩
            case measure => simp [intOf]; omega
      · have hlti : ¬ (j : Int) < (rk.length : Int) := by omega
        have HRL : Hid (Row wr w2.heap.size _ (t1 ++ [35] ++ fl rk)) := Lib.hid (by have := HR.out; rwa [List.take_of_length_le (by omega)] at this)
        have hfl := fl_len rk
        have HX1 := Lib.hid (HRL.out.bel ((Below.refl wr.heap.size wr).alloc (Nat.le_refl _) (.cells #[.int .u8 (10 : UInt8).toNat] 5)) (Nat.le_refl _))
        have HX2 := Lib.hid (BAt.of_row (Row.one wr 10) rfl).2
        have HX3 := Lib.hid (HBW.out.alloc HBW.out.size (.cells #[.int .u8 (10 : UInt8).toNat] 5))
        have HX4 := Lib.hid (HB.out.alloc HB.out.size (.cells #[.int .u8 (10 : UInt8).toNat] 5))
        have HX1d := Lib.hid (HX1.out.bel ((Below.refl _ _).drew : Below (wr.alloc (.cells #[.int .u8 (10 : UInt8).toNat] 5)).heap.size _ (wr.alloc (.cells #[.int .u8 (10 : UInt8).toNat] 5)).drew) (Nat.le_refl _))
        have HX2d := Lib.hid (HX2.out.bel ((Below.refl _ _).drew : Below (wr.alloc (.cells #[.int .u8 (10 : UInt8).toNat] 5)).heap.size _ (wr.alloc (.cells #[.int .u8 (10 : UInt8).toNat] 5)).drew) (Nat.le_refl _))
        have HX3d := Lib.hid (HX3.out.drew)
        have hn1 : (t1 ++ [35] ++ fl rk).length + [(10 : UInt8)].length ≤ 10000000000000 := by rw [List.length_append, List.length_append, List.length_singleton, List.length_singleton]; omega
        have hn2 : (t1 ++ [35] ++ fl rk ++ [10]).length + t2.length ≤ 10000000000000 := by rw [List.length_append, List.length_append, List.length_append, List.length_singleton, List.length_singleton]; omega
        clear HR hfl
        go_wp2_with fail
        go_region_law (first
          | (refine step_appAtK rfl _ _ rfl w2.heap.size _ (t1 ++ [35] ++ fl rk) (by first | exact HX1.out | exact HX1d.out) rfl wr.heap.size _ [10] _ _ rfl rfl (by first | exact HX2.out | exact HX2d.out) hn1 (by first | exact HX3.out.size | exact HX3d.out.size) ?_; intro v6 w6 hr6 hb6; have HR6 := Lib.hid hr6; have HB6 : Hid (Below w2.heap.size w2 w6) := Lib.hid (by first | exact HX3.out.trans hb6 | exact HX3d.out.trans hb6); have HB7 := Lib.hid (HB2.out.trans (HB6.out.mono HB2.out.size)); clear hr6 hb6)
          | (refine step_appAtK rfl _ _ rfl w2.heap.size _ (t1 ++ [35] ++ fl rk ++ [10]) (by exact HR6.out) rfl 0 _ t2 _ _ rfl (by first | exact hk2 | omega) (by first | exact HA2.out _ HB7.out | exact HA2.out _ HB7.out.drew) hn2 (by exact HB6.out.size) ?_; intro v7 w7 hr7 hb7))
        all_goals
          obtain ⟨p7, c7, hv7, hq7⟩ := hr7.reads
          rw [HNX.out] at hv7
          subst hv7
          have HB8 : Hid (Below w2.heap.size w2 w7) := Lib.hid (by first | exact HB6.out.trans hb7 | exact HB6.out.drew.trans hb7)
          have HB9 := Lib.hid (HB2.out.trans (HB8.out.mono HB2.out.size))
          have HQ7 := Lib.hid hq7
          clear hr7 hb7 hq7
          have HT3 := Lib.hid (HTX.out w7 _ p7 c7 HB9.out HQ7.out)
          go_wp2_with fail
          all_goals
            go_at_call 12
            refine HT3.out.mono ?_
            rintro e w8 ⟨hb', p8, c8, v8, rfl, hT8⟩
            have HT8 := Lib.hid hT8; clear hT8
            have HB10 := Lib.hid (HB8.out.trans (hb'.mono HB8.out.size)); clear hb'
            have HAL := Lib.hid (HAX.out w8 _ _ _ p8 c8 (HTT.out.bel HB10.out (Nat.le_refl _)) HT8.out)
            go_wp2_with fail
            go_at_call 21
            refine HAL.out.mono ?_
            rintro e w9 ⟨rfl, hb'⟩
            have HB11 := Lib.hid (HB2.out.trans ((HB10.out.trans (hb'.mono HB10.out.size)).mono HB2.out.size)); clear hb'
            go_wp2_with fail
            go_ret
            exact ⟨rfl, HB11.out⟩


theorem witness (os : Os) {H : Type} (enc : TypeId × Value → H) :
    ∃ (w : World) (tape : Tape) (i : Input), w.os = os ∧ (w.forCall tape i).Shaped Tryz.checked.prog ∧ i.vars = [] ∧ Input.okWide Tryz.checked.prog (w.forCall tape i) .any w.heap.size 8 i ∧
      ((Rows.lexisCommentsSpec.pre enc Tryz.checked.prog Tryz.f8 Rows.lexisCommentsRow.domain false (w.forCall tape i).memory i.args ∧ laidMetH Tryz.prog Rows.lexisCommentsRow.laid (w.forCall tape i).memory) ∧ sizedMet enc Tryz.checked.prog Tryz.f8 (OpenSpec.ofChange Rows.lexisCommentsSpec) false (w.forCall tape i).memory i.args) ∧ ({ modest := false } : Assume).holds Tryz.checked.prog (lone (Frame.enter Tryz.checked.prog 8 i.args .normal) [] (w.forCall tape i)) :=
  ChangeSpec.witness_shaped (enc := enc) (C := Tryz.checked) (os := os) (X := fun w _ => laidMetH Tryz.prog Rows.lexisCommentsRow.laid w) false (World.laidAll Tryz.prog os Rows.lexisCommentsRow.laid) #[.slice none 0 0, .int .u64 0, .slice none 0 0] 8 (World.laidAll_os _ _ _)
    (World.shaped_of_ZipB (by kernel_rfl) (by kernel_rfl)) (by kernel_rfl) (by kernel_rfl) (by kernel_rfl)
    (by rw [MakeChecks.laidMetH_plain _ _ _ (by kernel_rfl)]; exact laidMet_laidAll _ (by kernel_rfl) (by kernel_rfl))

set_option maxHeartbeats 1000000 in
set_option maxRecDepth 100000 in
theorem lifted (os : Os) (started : os.Started) (H : Type) (enc : TypeId × Value → H) (F : Stop.Interp) :
    ReturnsInHanded {} Tryz.checked os 8 .any ((OpenSpec.ofChange Rows.lexisCommentsSpec).preRow enc Tryz.prog Tryz.f8 Rows.lexisCommentsRow.domain false Rows.lexisCommentsRow.laid)
      (((OpenSpec.ofChange Rows.lexisCommentsSpec).at F).post enc Tryz.prog Tryz.f8 false true false false) := by
  refine returnsInHanded_of_row (C := Tryz.checked) (s := OpenSpec.ofChange Rows.lexisCommentsSpec) own started (by kernel_rfl) Tryz.func8 (witness os enc) ?_
  intro W base args ds gs before hval0 hW _ _ hsz0 hL hsh _
  have hsz : (DataW.weightsEach Tryz.prog (Tryz.f8.params.toList ++ (OpenSpec.ofChange Rows.lexisCommentsSpec).bare.plain.varTypes Tryz.prog) (ds ++ gs)).all (· ≤ reachBytes) = true := hsz0
  clear hsz0
  have hval : ∀ (j : Nat) t v, Tryz.f8.params[j]? = some t → args[j]? = some v → Value.okWide Tryz.prog W .any base t v := hval0
  have hW' := hW
  obtain ⟨p, q, hA0, hV0, rfl, hfz, hnd⟩ := hW
  have hA : DataW.TrodAll enc Tryz.prog W 0 (fun _ => true) true Tryz.f8.params.toList args.toList ds p := hA0
  have hV : DataW.TrodVars enc Tryz.prog W (fun _ => true) [] gs q := hV0
  rw [Tryz.params8] at hA hval hsz
  obtain ⟨v0, v1, v2, d0, d1, d2, p0, p1, p2, rfl, rfl, rfl, h0, h1, h2⟩ := trodAll_three hA
  obtain ⟨rfl, rfl⟩ := trodVars_none hV
  have h0k := h0
  have sz0 : ∀ n ∈ d0.weights Tryz.prog 22, n ≤ reachBytes := fun n hn => by
    have := List.all_eq_true.1 hsz n (DataW.weights_mem_each (j := 0) (t := 22) (d := d0) rfl rfl n hn)
    simpa using this
  have h2k := h2
  have sz2 : ∀ n ∈ d2.weights Tryz.prog 22, n ≤ reachBytes := fun n hn => by
    have := List.all_eq_true.1 hsz n (DataW.weights_mem_each (j := 2) (t := 22) (d := d2) rfl rfl n hn)
    simpa using this
  obtain ⟨u0, r0, c0, rfl, s0, m0, n0, l0⟩ := open_bytes (hval 0 22 v0 rfl rfl) h0 sz0
  obtain ⟨u1, rfl, rfl, rfl, wf1⟩ := open_int Tryz.underlying42 (hval 1 42 v1 rfl rfl) h1
  obtain ⟨u2, r2, c2, rfl, s2, m2, n2, l2⟩ := open_bytes (hval 2 22 v2 rfl rfl) h2 sz2
  clear hA0 hV0 hval0
  simp only [List.append_nil] at hW'
  have lt0 : ∀ y ∈ p0, y.block < W.heap.size := fun y hy => by simpa using hW'.lt y (by simp [hy])
  have lt2 : ∀ y ∈ p2, y.block < W.heap.size := fun y hy => by simpa using hW'.lt y (by simp [hy])
  refine (walk W (of_laid hL hsh) u0 r0 c0 s0 m0 n0 l0 u1 wf1 u2 r2 c2 s2 m2 n2 l2).mono fun e W' ⟨he, hg⟩ => ?_
  subst he
  exact ⟨_, rfl, _, _, _, [], _, [], hW', trodAll_mk1 (shut_bool Tryz.underlying4 _), trodAll_mk3 (Below.trod laidOut (by kernel_rfl) (of_decide_eq_true (by kernel_rfl)) h0k hg lt0) (shut_int Tryz.underlying42 wf1) (Below.trod laidOut (by kernel_rfl) (of_decide_eq_true (by kernel_rfl)) h2k hg lt2), rfl, hg.frame _, fun h => by cases h⟩

theorem over : Rows.LexisCommentsSaid :=
  OpenClaim.holds_of_cond 8 Tryz.f8 rfl rfl rfl rfl rfl rfl rfl ⟨rfl, rfl, rfl, rfl, rfl⟩ rfl rfl rfl rfl rfl (by kernel_rfl) Tryz.func8 (by kernel_rfl)
    (of_decide_eq_true (by kernel_rfl)) (by unfold Func.isWrapper; first | (rw [if_pos (by decide +kernel)]; kernel_rfl) | (rw [if_neg (by decide +kernel)]; exact ⟨rfl, rfl⟩))
    (fun os started H enc _ F0 => by rw [OpenClaim.pre_eq_preRow]; exact lifted os started H enc F0)

/-- THE STATEMENT: the tied card. -/
theorem proved : Rows.LexisCommentsCardSaid :=
  Claim7.holds_tied_plain_at .later [] Rows.lexisCommentsCard.laidKinds true Rows.lexisCommentsCard.stood.harness false
    over (fun _ h => by cases h) (by kernel_rfl) (fun _ h => by cases h) lexisComments_row_tie rfl ⟨rfl, rfl⟩ (by kernel_rfl) rfl
    (fun f fn hf hfn => by
      obtain rfl : f = 8 := Option.some.inj ((show Tryz.prog.funcNamed "stopwatch/stopwatchlaw05.LexisComments" = some 8 by kernel_rfl).symm.trans hf) |>.symm
      obtain rfl : fn = Tryz.f8 := (Option.some.inj (Tryz.func8.symm.trans hfn)).symm
      exact ⟨by kernel_rfl, fun j t ht => by
        rw [Tryz.params8] at ht
        have hm : t ∈ [22, 42, 22] := by simpa using Array.mem_of_getElem? ht
        have hall : ([22, 42, 22].all fun u => !Tryz.prog.wantsStandIn u) = true := by kernel_rfl
        exact (show Tryz.prog.wantsStandIn t = false by simpa using List.all_eq_true.1 hall t hm)⟩)
    (by kernel_rfl)
#print axioms proved
end Go.Proofs.YtlcmedimgoaneaaGreatDoor.lexisComments
