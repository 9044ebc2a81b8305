/- The specification's Contents and Quote. -/
import Derived.Test.YtlcmedimgoaneaaGreatDoorKQuot
namespace Go.Proofs.YtlcmedimgoaneaaGreatDoor
open Go.RowKit

theorem seqB_iff (c : UInt8) : (seqB c != []) = (decide (c.toNat = 10) || (decide (32 ≤ c.toNat) && decide (c.toNat ≤ 126))) :=
  all_bytes (p := fun c => (seqB c != []) = (decide (c.toNat = 10) || (decide (32 ≤ c.toNat) && decide (c.toNat ≤ 126)))) (by decide +kernel) c
set_option maxHeartbeats 1000000 in
set_option maxRecDepth 100000 in
theorem contents_any (l : Bs) (hb : l.length ≤ 100000) (w : World) :
    Calls Tryz.prog 34 #[.string (S l)] w fun e w' => e = .returned (.bool (okQ l)) ∧ w' = w := by
  have hsz := S_size l
  go_enter Tryz.func34, Tryz.ntmps34
  go_wp2_with fail
  go_loopw [3] (fun i wr => ∃ j : Nat, j ≤ l.length ∧ i = .int .i64 j ∧ Hid (okQ (l.take j) = true) ∧ wr = w) (fun i _ => l.length - (intOf i).toNat)
  case atStart => exact ⟨0, Nat.zero_le _, rfl, Lib.hid rfl, rfl⟩
  case round =>
    obtain ⟨j, hj, rfl, HO, rfl⟩ := hrel
    by_cases hlt : j < l.length
    · have hps : j < (S l).size := by omega
      have hpi : (j : Int) < (l.length : Int) := by omega
      have HGt := Lib.hid (S_get l j hps)
      have HT := Lib.hid (okQ_take hlt)
      have HN := Lib.hid (okQ_false (l := l) hlt)
      have HS := Lib.hid (seqB_iff (l[j]'hlt))
      rw [← HGt.out] at HT HN HS
      have hcb := byte_le ((S l)[j]'hps)
      by_cases h10 : ((S l)[j]'hps).toNat = 10
      · have h10i : ((((S l)[j]'hps).toNat : Int) != 10) = false := by rw [bne, h10]; rfl
        have h10e : ((((S l)[j]'hps).toNat : Int) = 10) := by omega
        have HO2 : Hid (okQ (l.take (j + 1)) = true) := Lib.hid (by rw [HT.out, HO.out, HS.out, decide_eq_true h10]; rfl)
        clear h10
        go_wp2_with fail
        go_roundw
        case rel => exact ⟨j + 1, by omega, by go_num, HO2, trivial⟩
        case measure => simp [intOf]; omega
      · have h10i : ((((S l)[j]'hps).toNat : Int) == 10) = false := beq_eq_false_iff_ne.2 (by omega)
        have h10n : ¬ ((((S l)[j]'hps).toNat : Int) = 10) := by omega
        by_cases h32 : 32 ≤ ((S l)[j]'hps).toNat
        · have h32i : ¬ ((((S l)[j]'hps).toNat : Int) < 32) := by omega
          by_cases h126 : ((S l)[j]'hps).toNat ≤ 126
          · have h126i : ¬ ((126 : Int) < (((S l)[j]'hps).toNat : Int)) := by omega
            have HO2 : Hid (okQ (l.take (j + 1)) = true) := Lib.hid (by rw [HT.out, HO.out, HS.out, decide_eq_true h32, decide_eq_true h126]; simp)
            clear h10 h32 h126
            go_wp2_with fail
            go_roundw
            case rel => exact ⟨j + 1, by omega, by go_num, HO2, trivial⟩
            case measure => simp [intOf]; omega
          · have h126i : ((126 : Int) < (((S l)[j]'hps).toNat : Int)) := by omega
            have HF : Hid (okQ l = false) := Lib.hid (HN.out (by
              have := HS.out
              rw [decide_eq_false h10, decide_eq_false h126] at this
              simpa using this))
            clear h10 h32 h126
            go_wp2_with fail
            go_ret
            exact ⟨ret_bool HF.out.symm, rfl⟩
        · have h32i : ((((S l)[j]'hps).toNat : Int) < 32) := by omega
          have HF : Hid (okQ l = false) := Lib.hid (HN.out (by
            have := HS.out
            rw [decide_eq_false h10, decide_eq_false h32] at this
            simpa using this))
          clear h10 h32
          go_wp2_with fail
          go_ret
          exact ⟨ret_bool HF.out.symm, rfl⟩
    · have hpi : ¬ (j : Int) < (l.length : Int) := by omega
      have HOL : Hid (okQ l = true) := Lib.hid (by have := HO.out; rwa [List.take_of_length_le (by omega)] at this)
      go_wp2_with fail
      go_ret
      exact ⟨ret_bool HOL.out.symm, rfl⟩

/-- What the specification writes for a byte. -/
def seqC (c : UInt8) : Bs := if c = 10 then [92, 110] else if c = 34 then [92, c] else if c = 92 then [92, c] else [c]
theorem seqC_len (c : UInt8) : (seqC c).length ≤ 2 := by
  unfold seqC
  split; · simp
  split; · simp
  split <;> simp
theorem flatC_take {l : Bs} {j : Nat} (h : j < l.length) : (l.take (j + 1)).flatMap seqC = (l.take j).flatMap seqC ++ seqC l[j] := by
  rw [List.take_succ_eq_append_getElem h, List.flatMap_append]; simp
theorem flatC_len : ∀ l : Bs, (l.flatMap seqC).length ≤ 2 * l.length
  | [] => by simp
  | c :: l => by
    have := flatC_len l
    have := seqC_len c
    rw [List.flatMap_cons, List.length_append, List.length_cons]; omega
theorem seqC_eq {c : UInt8} (h : seqB c ≠ []) : seqC c = seqB c := by
  unfold seqB at h ⊢
  unfold seqC
  by_cases h1 : c = 34
  · subst h1; rfl
  by_cases h2 : c = 92
  · subst h2; rfl
  by_cases h3 : c = 10
  · subst h3; rfl
  rw [if_neg h1, if_neg h2, if_neg h3] at h ⊢
  rw [if_neg h3, if_neg h1, if_neg h2]
  by_cases h4 : plain c = true
  · rw [if_pos h4]
  · rw [if_neg h4] at h; exact absurd rfl h
theorem flatC_eq : ∀ l : Bs, okQ l = true → l.flatMap seqC = l.flatMap seqB
  | [], _ => rfl
  | c :: l, h => by
    unfold okQ at h
    simp only [List.all_cons, Bool.and_eq_true, bne_iff_ne, ne_eq] at h
    rw [List.flatMap_cons, List.flatMap_cons, seqC_eq h.1, flatC_eq l (by unfold okQ; exact h.2)]
def quotC (l : Bs) : Bs := 34 :: (l.flatMap seqC ++ [34])
theorem quotC_eq {l : Bs} (h : okQ l = true) : quotC l = quotB l := by unfold quotC quotB; rw [flatC_eq l h]
theorem Row.two (w : World) (c d : UInt8) : Row (w.alloc (.cells #[.int .u8 c.toNat, .int .u8 d.toNat] 5)) w.heap.size (.slice (some ⟨w.heap.size, 0, none⟩) 2 2) [c, d] :=
  ⟨rfl, .inr ⟨w.heap.size, 2, #[.int .u8 c.toNat, .int .u8 d.toNat], rfl, Nat.le_refl _, heap_alloc_new w _, Nat.le_refl _, by decide, rfl, rfl⟩⟩
set_option maxHeartbeats 2000000 in
set_option maxRecDepth 100000 in
theorem quote_any (l : Bs) (hb : l.length ≤ 100000) (w : World) :
    Calls Tryz.prog 35 #[.string (S l)] w fun e w' => e = .returned (.string (S (quotC l))) ∧ Below w.heap.size w w' := by
  have HQ : Hid (quotC l = (34 :: l.flatMap seqC) ++ [34]) := Lib.hid rfl
  generalize quotC l = R at *
  have hsz := S_size l
  go_enter Tryz.func35, Tryz.ntmps35
  go_wp2_with fail
  go_loopw [3, 4] (fun v i wr => ∃ j : Nat, j ≤ l.length ∧ i = .int .i64 j ∧ Hid (Row wr w.heap.size v (34 :: (l.take j).flatMap seqC)) ∧ Hid (Below w.heap.size w wr)) (fun _ i _ => l.length - (intOf i).toNat)
  case atStart => exact ⟨0, Nat.zero_le _, rfl, Lib.hid (Row.one w 34), Lib.hid ((Below.refl _ _).alloc (Nat.le_refl _) _)⟩
  case round =>
    obtain ⟨j, hj, rfl, HR, HB⟩ := hrel
    by_cases hlt : j < l.length
    · have hps : j < (S l).size := by omega
      have hpi : (j : Int) < (l.length : Int) := by omega
      have HGt := Lib.hid (S_get l j hps)
      have HF := Lib.hid (flatC_take hlt)
      have hfl := flatC_len (l.take j)
      rw [List.length_take] at hfl
      rw [← HGt.out] at HF
      have hcb := byte_le ((S l)[j]'hps)
      have HRA : Hid (∀ o, Row (wr.alloc o) w.heap.size _ (34 :: (l.take j).flatMap seqC)) := Lib.hid fun o => HR.out.bel ((Below.refl wr.heap.size wr).alloc (Nat.le_refl _) o) (Nat.le_refl _)
      have hlo : ∀ o, w.heap.size ≤ (wr.alloc o).heap.size := fun o => by have := HB.out.size; simp; omega
      by_cases h10 : ((S l)[j]'hps) = 10
      · have h10i : (((S l)[j]'hps).toNat : Int) = 10 := by rw [h10]; rfl
        have H1 := Lib.hid (Row.two wr 92 110)
        have hn : (34 :: (l.take j).flatMap seqC).length + [(92 : UInt8), 110].length ≤ 10000000000000 := by rw [List.length_cons]; simp only [List.length_cons, List.length_nil]; omega
        have HQ2 : Hid (seqC ((S l)[j]'hps) = [92, 110]) := Lib.hid (by unfold seqC; rw [if_pos h10])
        clear h10
        go_wp2_with (refine wpList_appRow rfl _ _ rfl w.heap.size _ _ (HRA.out _) rfl _ _ _ H1.out rfl (by decide) hn (hlo _) ?_; intro v2 w2 hr2 hb2 hsz2)
        have HR2 : Hid (Row w2 w.heap.size v2 (34 :: (l.take (j + 1)).flatMap seqC)) := Lib.hid (by rw [HF.out, HQ2.out]; exact hr2)
        have HB2 := Lib.hid ((HB.out.alloc HB.out.size _).trans hb2)
        go_round
        case rel => exact ⟨j + 1, by omega, by go_num, HR2, HB2⟩
        case measure => simp [intOf]; omega
      · have h10i : ¬ (((S l)[j]'hps).toNat : Int) = 10 := fun h => h10 (UInt8.toNat_inj.1 (by have : (10 : UInt8).toNat = 10 := rfl; omega))
        have h10b : ((((S l)[j]'hps).toNat : Int) == 10) = false := beq_eq_false_iff_ne.2 h10i
        by_cases h34 : ((S l)[j]'hps) = 34
        · have hs : (((S l)[j]'hps).toNat : Int) = 34 := by rw [h34]; rfl
          have H1 := Lib.hid (Row.two wr 92 34)
          have hn : (34 :: (l.take j).flatMap seqC).length + [(92 : UInt8), 34].length ≤ 10000000000000 := by rw [List.length_cons]; simp only [List.length_cons, List.length_nil]; omega
          have HQ2 : Hid (seqC ((S l)[j]'hps) = [92, 34]) := Lib.hid (by rw [h34]; decide)
          clear h10 h34
          go_wp2_with (refine wpList_appRow rfl _ _ rfl w.heap.size _ _ (HRA.out _) rfl _ _ _ H1.out rfl (by decide) hn (hlo _) ?_; intro v2 w2 hr2 hb2 hsz2)
          have HR2 : Hid (Row w2 w.heap.size v2 (34 :: (l.take (j + 1)).flatMap seqC)) := Lib.hid (by rw [HF.out, HQ2.out]; exact hr2)
          have HB2 := Lib.hid ((HB.out.alloc HB.out.size _).trans hb2)
          go_round
          case rel => exact ⟨j + 1, by omega, by go_num, HR2, HB2⟩
          case measure => simp [intOf]; omega
        by_cases h92 : ((S l)[j]'hps) = 92
        · have hs : (((S l)[j]'hps).toNat : Int) = 92 := by rw [h92]; rfl
          have H1 := Lib.hid (Row.two wr 92 92)
          have hn : (34 :: (l.take j).flatMap seqC).length + [(92 : UInt8), 92].length ≤ 10000000000000 := by rw [List.length_cons]; simp only [List.length_cons, List.length_nil]; omega
          have HQ2 : Hid (seqC ((S l)[j]'hps) = [92, 92]) := Lib.hid (by rw [h92]; decide)
          clear h10 h92
          go_wp2_with (refine wpList_appRow rfl _ _ rfl w.heap.size _ _ (HRA.out _) rfl _ _ _ H1.out rfl (by decide) hn (hlo _) ?_; intro v2 w2 hr2 hb2 hsz2)
          have HR2 : Hid (Row w2 w.heap.size v2 (34 :: (l.take (j + 1)).flatMap seqC)) := Lib.hid (by rw [HF.out, HQ2.out]; exact hr2)
          have HB2 := Lib.hid ((HB.out.alloc HB.out.size _).trans hb2)
          go_round
          case rel => exact ⟨j + 1, by omega, by go_num, HR2, HB2⟩
          case measure => simp [intOf]; omega
        · have h34b : ((((S l)[j]'hps).toNat : Int) == 34) = false := beq_eq_false_iff_ne.2 fun h => h34 (UInt8.toNat_inj.1 (by have : (34 : UInt8).toNat = 34 := rfl; omega))
          have h92b : ((((S l)[j]'hps).toNat : Int) == 92) = false := beq_eq_false_iff_ne.2 fun h => h92 (UInt8.toNat_inj.1 (by have : (92 : UInt8).toNat = 92 := rfl; omega))
          have H1 := Lib.hid (Row.one wr ((S l)[j]'hps))
          have hn : (34 :: (l.take j).flatMap seqC).length + [((S l)[j]'hps)].length ≤ 10000000000000 := by rw [List.length_cons]; simp only [List.length_cons, List.length_nil]; omega
          have HQ2 : Hid (seqC ((S l)[j]'hps) = [((S l)[j]'hps)]) := Lib.hid (by unfold seqC; rw [if_neg h10, if_neg h34, if_neg h92])
          clear h10 h34 h92
          go_wp2_with (refine wpList_appRow rfl _ _ rfl w.heap.size _ _ (HRA.out _) rfl _ _ _ H1.out rfl Nat.zero_lt_one hn (hlo _) ?_; intro v2 w2 hr2 hb2 hsz2)
          have HR2 : Hid (Row w2 w.heap.size v2 (34 :: (l.take (j + 1)).flatMap seqC)) := Lib.hid (by rw [HF.out, HQ2.out]; exact hr2)
          have HB2 := Lib.hid ((HB.out.alloc HB.out.size _).trans hb2)
          go_round
          case rel => exact ⟨j + 1, by omega, by go_num, HR2, HB2⟩
          case measure => simp [intOf]; omega
    · have hpi : ¬ (j : Int) < (l.length : Int) := by omega
      have HRL : Hid (Row wr w.heap.size _ (34 :: l.flatMap seqC)) := Lib.hid (by have := HR.out; rwa [List.take_of_length_le (by omega)] at this)
      have hfl := flatC_len l
      have HRA : Hid (∀ o, Row (wr.alloc o) w.heap.size _ (34 :: l.flatMap seqC)) := Lib.hid fun o => HRL.out.bel ((Below.refl wr.heap.size wr).alloc (Nat.le_refl _) o) (Nat.le_refl _)
      have H1 := Lib.hid (Row.one wr 34)
      have hn : (34 :: l.flatMap seqC).length + [(34 : UInt8)].length ≤ 10000000000000 := by rw [List.length_cons, List.length_singleton]; omega
      have hlo : w.heap.size ≤ (wr.alloc (.cells #[.int .u8 (34 : UInt8).toNat] 5)).heap.size := by have := HB.out.size; simp; omega
      go_wp2_with (refine wpList_appRow rfl _ _ rfl w.heap.size _ _ (HRA.out _) rfl _ _ _ H1.out rfl Nat.zero_lt_one hn hlo ?_; intro v2 w2 hr2 hb2 hsz2; have hcv := strRow hr2)
      go_ret
      rw [HQ.out]
      exact ⟨rfl, (HB.out.alloc HB.out.size _).trans hb2⟩
end Go.Proofs.YtlcmedimgoaneaaGreatDoor
