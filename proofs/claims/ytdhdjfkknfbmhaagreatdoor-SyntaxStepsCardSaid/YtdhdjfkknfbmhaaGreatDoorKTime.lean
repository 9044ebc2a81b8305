/- The program's integers and parts of times. -/
import Derived.Test.YtdhdjfkknfbmhaaGreatDoorKNum
import Derived.Test.YtdhdjfkknfbmhaaGreatDoorKRef1
namespace Go.Proofs.YtdhdjfkknfbmhaaGreatDoor
open Go.RowKit

theorem int_prog (l : Bs) : int l = (num (Lib.trimPrefix l [45]) && !(Lib.hasPrefix l [45] && Lib.trimPrefix l [45] == [48])) := by
  unfold int Lib.trimPrefix Lib.hasPrefix
  cases l with
  | nil => rfl
  | cons c t =>
    by_cases h : c = 45
    · subst h
      simp only [List.head?_cons, if_true, List.tail_cons, List.isPrefixOf, beq_self_eq_true, Bool.true_and, List.length_singleton, List.drop_succ_cons, List.drop_zero]
      congr 1
    · have h1 : ((45 : UInt8) == c) = false := by simpa using fun e : 45 = c => h e.symm
      have h2 : ¬ (some c = some (45 : UInt8)) := by simpa using h
      rw [if_neg (by simpa using h)]
      simp only [List.isPrefixOf, h1, Bool.false_and, Bool.not_false, Bool.and_true, Bool.false_eq_true, if_false]
theorem trimP_len (l p : Bs) : (Lib.trimPrefix l p).length ≤ l.length := Lib.trimPrefix_le l p

theorem isInteger_any (l : Bs) (hb : l.length ≤ 140737488351232) (w : World) (hG : Gl w) :
    Calls Tryz.prog 58 #[.string (S l)] w fun e w' => e = .returned (.bool (int l)) ∧ Below w.heap.size w w' := by
  have HC := Lib.hid (cutPrefix_any l [45] w)
  have HN := Lib.hid (isNumeral_any (Lib.trimPrefix l [45]) (by have := trimP_len l [45]; omega) w hG)
  have HE := Lib.hid (int_prog l)
  have HT := Lib.hid (S_toList (Lib.trimPrefix l [45]))
  clear hG
  change Hid (Calls _ _ #[.string (S l), .string ⟨#[45]⟩] _ _) at HC
  generalize Lib.trimPrefix l [45] = u at *
  generalize Lib.hasPrefix l [45] = neg at *
  generalize num u = nu at *
  generalize int l = r at *
  go_enter Tryz.func58, Tryz.ntmps58
  go_wp2_with fail
  go_at_call 114
  refine HC.out.mono ?_
  rintro e w' ⟨rfl, rfl⟩
  cases nu with
  | false =>
    go_wp2_with fail
    go_at_call 115
    refine HN.out.mono ?_
    rintro e w1 ⟨rfl, hb'⟩
    have HB := Lib.hid hb'; clear hb'
    go_wp2_with fail
    go_ret
    exact ⟨ret_bool HE.out.symm, HB.out⟩
  | true =>
    cases neg with
    | false =>
      go_wp2_with fail
      go_at_call 115
      refine HN.out.mono ?_
      rintro e w1 ⟨rfl, hb'⟩
      have HB := Lib.hid hb'; clear hb'
      go_wp2_with fail
      go_ret
      exact ⟨ret_bool HE.out.symm, HB.out⟩
    | true =>
      go_wp2_with fail
      go_at_call 115
      refine HN.out.mono ?_
      rintro e w1 ⟨rfl, hb'⟩
      have HB := Lib.hid hb'; clear hb'
      go_wp2_with fail
      go_ret
      exact ⟨ret_bool (by rw [HE.out, HT.out]; simp), HB.out⟩

theorem six_some (l : Bs) : (six l).isSome = (decide (l.length = 2) && (decide (0 < l.length) && l.all isD) && decide ((l.headD 0).toNat < 54)) := by
  unfold six
  by_cases h : l.length = 2 ∧ l.all isD = true ∧ (l.headD 0).toNat ≤ 53
  · rw [if_pos h]
    obtain ⟨h1, h2, h3⟩ := h
    rw [decide_eq_true h1, decide_eq_true (show (l.headD 0).toNat < 54 by omega), decide_eq_true (show 0 < l.length by omega), h2]; rfl
  · rw [if_neg h]
    by_cases h1 : l.length = 2
    · by_cases h2 : l.all isD = true
      · have h3 : ¬ (l.headD 0).toNat < 54 := fun h3 => h ⟨h1, h2, by omega⟩
        rw [decide_eq_false h3, Bool.and_false]; rfl
      · have h3 : l.all isD = false := by simpa using h2
        rw [h3, Bool.and_false, Bool.and_false, Bool.false_and]; rfl
    · rw [decide_eq_false h1]; rfl

theorem isSixtieth_any (l : Bs) (hb : l.length ≤ 140737488351232) (w : World) (hG : Gl w) :
    Calls Tryz.prog 180 #[.string (S l)] w fun e w' => e = .returned (.bool (six l).isSome) ∧ Below w.heap.size w w' := by
  have hsz := S_size l
  have HE := Lib.hid (six_some l)
  by_cases h2 : l.length = 2
  · have HH := Lib.hid (hasDigits_any l hb w hG)
    have hs0 : 0 < (S l).size := by omega
    have HG0 := Lib.hid (S_get0 l hs0)
    rw [decide_eq_true h2, Bool.true_and] at HE
    clear hG
    generalize (decide (0 < l.length) && l.all isD) = q at *
    generalize (six l).isSome = r at *
    go_enter Tryz.func180, Tryz.ntmps180
    cases q with
    | false =>
      go_wp2_with fail
      go_at_call 153
      refine HH.out.mono ?_
      rintro e w1 ⟨rfl, hb'⟩
      have HB := Lib.hid hb'; clear hb'
      go_wp2_with fail
      go_ret
      exact ⟨ret_bool HE.out.symm, HB.out⟩
    | true =>
      go_wp2_with fail
      go_at_call 153
      refine HH.out.mono ?_
      rintro e w1 ⟨rfl, hb'⟩
      have HB := Lib.hid hb'; clear hb'
      go_wp2_with fail
      go_ret
      refine ⟨ret_bool ?_, HB.out⟩
      rw [HE.out, HG0.out, Bool.true_and, Bool.eq_iff_iff]
      simp
      try omega
  · rw [decide_eq_false h2, Bool.false_and, Bool.false_and] at HE
    clear hG
    generalize (six l).isSome = r at *
    go_enter Tryz.func180, Tryz.ntmps180
    go_wp2_with fail
    go_ret
    exact ⟨ret_bool HE.out.symm, Below.refl _ _⟩

theorem value_any (l : Bs) (hl : l.length ≤ 18) (hd : l.all isD = true) (w : World) :
    Calls Tryz.prog 179 #[.string (S l)] w fun e w' => e = .returned (.int .i64 (val l)) ∧ w' = w := by
  have hsz := S_size l
  go_enter Tryz.func179, Tryz.ntmps179
  go_wp2_with fail
  go_loopw [2, 6] (fun n i wr => ∃ j : Nat, j ≤ l.length ∧ i = .int .i64 j ∧ n = .int .i64 (val (l.take j)) ∧ wr = w) (fun _ i _ => l.length - (intOf i).toNat)
  case atStart => exact ⟨0, Nat.zero_le _, rfl, rfl, rfl⟩
  case round =>
    obtain ⟨j, hj, rfl, rfl, rfl⟩ := hrel
    by_cases hlt : j < l.length
    · obtain ⟨h1, h2, h3, h4⟩ := val_take_lt hl hd hlt
      have HG := Lib.hid (S_get l j (by omega))
      rw [← HG.out] at h1 h2 h3
      have H1 := Lib.hid h1; clear h1
      generalize val (l.take j) = v at *
      go_wp2_with fail
      go_round
      case rel => exact ⟨j + 1, by omega, by go_num, by rw [H1.out]; go_num, trivial⟩
      case measure => simp [intOf]; omega
    · go_wp2_with fail
      go_ret
      rw [List.take_of_length_le (by omega)]
      exact ⟨rfl, rfl⟩

theorem S_append (a b : Bs) : S a ++ S b = S (a ++ b) := by
  apply ByteArray.ext
  simp [S]

theorem microseconds_any (l : Bs) (hl : l.length ≤ 6) (hd : l.all isD = true) (w : World) :
    Calls Tryz.prog 158 #[.string (S l)] w fun e w' => e = .returned (.int .i64 (val (l ++ List.replicate (6 - l.length) 48))) ∧ Below w.heap.size w w' := by
  have hsz := S_size l
  have HR := Lib.hid (repeat_any (6 - l.length) (by omega) w)
  have HS := Lib.hid (S_append l (List.replicate (6 - l.length) 48))
  have HV : Hid (∀ w, Calls Tryz.prog 179 #[.string (S (l ++ List.replicate (6 - l.length) 48))] w fun e w' => e = .returned (.int .i64 (val (l ++ List.replicate (6 - l.length) 48))) ∧ w' = w) :=
    Lib.hid fun w => value_any _ (by rw [List.length_append, List.length_replicate]; omega) (by
      rw [List.all_append, hd, Bool.true_and, List.all_eq_true]
      intro x hx
      rw [(List.mem_replicate.1 hx).2]; decide) w
  rw [← HS.out] at HV
  change Hid (Calls _ _ #[.string ⟨#[48]⟩, _] _ _) at HR
  rw [show (((6 - l.length : Nat)) : Int) = 6 - (l.length : Int) by omega] at HR
  have hzs : (S (List.replicate (6 - l.length) 48)).size = 6 - l.length := by rw [S_size, List.length_replicate]
  generalize val (l ++ List.replicate (6 - l.length) 48) = v at *
  generalize S (List.replicate (6 - l.length) 48) = z at *
  go_enter Tryz.func158, Tryz.ntmps158
  go_wp2_with fail
  go_at_call 181
  refine HR.out.mono ?_
  rintro e w1 ⟨rfl, hb'⟩
  have HB := Lib.hid hb'; clear hb'
  go_wp2_with fail
  go_at_call 179
  refine (HV.out _).mono ?_
  rintro e w2 ⟨rfl, rfl⟩
  go_wp2_with fail
  go_ret
  exact ⟨rfl, HB.out⟩

theorem sixF_append : ∀ (a b : List Bs) (n : Nat), sixF n (a ++ b) = (sixF n a).bind fun m => sixF m b
  | [], _, _ => rfl
  | p :: r, b, n => by
    rw [List.cons_append, sixF, sixF]
    cases six p with
    | none => rfl
    | some m => exact sixF_append r b _
theorem sixF_take {t : List Bs} {v j n : Nat} (h : j < t.length) (hn : sixF v (t.take j) = some n) : sixF v (t.take (j + 1)) = (six t[j]).map fun m => 60 * n + m := by
  rw [List.take_succ_eq_append_getElem h, sixF_append, hn]
  show sixF n [t[j]] = _
  rw [sixF]
  cases six t[j] <;> rfl
theorem sixF_none {t : List Bs} {v j n : Nat} (h : j < t.length) (hn : sixF v (t.take j) = some n) (h6 : six t[j] = none) : sixF v t = none := by
  have h1 := sixF_take h hn
  rw [h6] at h1
  rw [← List.take_append_drop (j + 1) t, sixF_append, h1]; rfl
theorem sixF_lt : ∀ (t : List Bs) (v n : Nat), sixF v t = some n → n + 1 ≤ (v + 1) * 60 ^ t.length
  | [], v, n, h => by simp [sixF] at h; simp; omega
  | p :: r, v, n, h => by
    rw [sixF] at h
    cases h6 : six p with
    | none => rw [h6] at h; simp at h
    | some m =>
      rw [h6] at h
      have h1 := sixF_lt r _ n h
      have h2 := six_lt h6
      have h3 : (60 * v + m + 1) * 60 ^ r.length ≤ (60 * (v + 1)) * 60 ^ r.length := Nat.mul_le_mul_right _ (by omega)
      rw [List.length_cons, Nat.pow_succ]
      have h4 : (v + 1) * (60 ^ r.length * 60) = (60 * (v + 1)) * 60 ^ r.length := by
        rw [Nat.mul_comm (60 ^ r.length), ← Nat.mul_assoc, Nat.mul_comm (v + 1)]
      omega

def wR (ps : List Bs) : Value × Value := match wsec ps with | some n => (.int .i64 n, .bool true) | none => (.int .i64 0, .bool false)
theorem six_digits {l : Bs} (h : (six l).isSome = true) : l.all isD = true ∧ l.length = 2 := by
  rw [six_some] at h
  simp only [Bool.and_eq_true, decide_eq_true_eq] at h
  exact ⟨h.1.2.2, h.1.1⟩

theorem wR_bad {a : Bs} (t : List Bs) (h : num a = false) : wR (a :: t) = (.int .i64 0, .bool false) := by
  simp [wR, wsec, h]
theorem wR_big {a : Bs} (t : List Bs) (h : 1099511 < val a) : wR (a :: t) = (.int .i64 0, .bool false) := by
  simp [wR, wsec, h]
theorem wR_ok {a : Bs} (t : List Bs) (h : num a = true) (h2 : ¬ 1099511 < val a) : wR (a :: t) = match sixF (val a) t with | some n => (.int .i64 n, .bool true) | none => (.int .i64 0, .bool false) := by
  simp [wR, wsec, h, h2]

set_option maxRecDepth 100000 in
theorem wholeSeconds_any (a : Bs) (t : List Bs) (ht : t.length ≤ 2) (hb : ∀ x ∈ a :: t, x.length ≤ 140737488351232) (w : World) (hG : Gl w) (b c : Nat) (hc : t.length + 1 ≤ c) (hc4 : c ≤ 4) (hp : Parts w b (a :: t)) (_ : 12 ≤ b) :
    Calls Tryz.prog 157 #[.slice (some ⟨b, 0, none⟩) (t.length + 1 : Nat) c] w fun e w' => e = .returned (.tuple #[(wR (a :: t)).1, (wR (a :: t)).2]) ∧ Below w.heap.size w w' := by
  have hlt := hp.lt
  have hc0 := hp.at' 0 (by simp)
  simp only [List.getElem_cons_zero] at hc0
  have HN := isNumeral_any a (hb a (by simp)) w hG
  have HP := Lib.hid hp
  have HGl := Lib.hid hG
  have HT : Hid (∀ x ∈ t, x.length ≤ 140737488351232) := Lib.hid fun x hx => hb x (by simp [hx])
  clear hG hp hb
  cases hna : num a with
  | false =>
    rw [wR_bad t hna]
    rw [hna] at HN
    have HN := Lib.hid HN
    generalize S a = sa at *
    clear hna
    go_enter Tryz.func157, Tryz.ntmps157
    go_wp2_with fail
    go_at_call 115
    refine HN.out.mono ?_
    rintro e w1 ⟨rfl, hb'⟩
    have HB := Lib.hid hb'; clear hb' hc0
    go_wp2_with fail
    go_ret2
    exact ⟨rfl, HB.out⟩
  | true =>
    have HV : Hid (∀ w, Calls Tryz.prog 179 #[.string (S a)] w fun e w' => e = .returned (.int .i64 (val a)) ∧ w' = w) := Lib.hid fun w => value_any a (num_all hna).2.2 (num_all hna).1 w
    have hv : val a < 1000000000000000000 := Nat.lt_of_lt_of_le (val_lt _ a rfl (num_all hna).1) (Nat.le_trans (Nat.pow_le_pow_right (by decide) (num_all hna).2.2) (by decide))
    rw [hna] at HN
    have HN := Lib.hid HN
    by_cases hbig : 1099511 < val a
    · rw [wR_big t hbig]
      generalize S a = sa at *
      generalize val a = v at *
      clear hna
      go_enter Tryz.func157, Tryz.ntmps157
      go_wp2_with fail
      go_at_call 115
      refine HN.out.mono ?_
      rintro e w1 ⟨rfl, hb'⟩
      have hc1 := (hb'.cell (p := ⟨b, 0, none⟩) hlt).trans hc0
      have HB := Lib.hid hb'; clear hb' hc0
      go_wp2_with fail
      go_at_call 179
      refine (HV.out _).mono ?_
      rintro e w2 ⟨rfl, rfl⟩
      go_wp2_with fail
      go_ret2
      exact ⟨rfl, HB.out⟩
    · have HR := Lib.hid (wR_ok t hna hbig)
      generalize wR (a :: t) = R at *
      generalize S a = sa at *
      generalize val a = v at *
      clear hna
      go_enter Tryz.func157, Tryz.ntmps157
      go_wp2_with fail
      go_at_call 115
      refine HN.out.mono ?_
      rintro e w1 ⟨rfl, hb'⟩
      have hc1 := (hb'.cell (p := ⟨b, 0, none⟩) hlt).trans hc0
      have HP1 := Lib.hid (HP.out.bel hb' hlt)
      have HG1 := Lib.hid (HGl.out.bel' hb')
      have HB := Lib.hid hb'; clear hb' hc0
      go_wp2_with fail
      go_at_call 179
      refine (HV.out _).mono ?_
      rintro e w2 ⟨rfl, rfl⟩
      go_wp2_with fail
      all_goals
        go_loopw [2, 3, 20] (fun n k i wr => ∃ j m : Nat, j ≤ t.length ∧ i = .int .i64 j ∧ n = .int .i64 m ∧ k = .bool false ∧ m < 4000000000 ∧ Hid (sixF v (t.take j) = some m) ∧ Hid (Below w.heap.size w wr)) (fun _ _ i _ => t.length - (intOf i).toNat)
        case atStart => exact ⟨0, v, Nat.zero_le _, rfl, rfl, rfl, by omega, Lib.hid rfl, HB⟩
        case round =>
          obtain ⟨j, m, hj, rfl, rfl, rfl, hm, HS, HB1⟩ := hrel
          by_cases hlt2 : j < t.length
          · have HG2 := HGl.out.bel' HB1.out
            have HP2 : wr.cell? ⟨b, 1 + j, none⟩ = some (.string (S t[j])) := by
              have h := (HP.out.bel HB1.out hlt).at' (j + 1) (by simp; omega)
              simp only [List.getElem_cons_succ] at h
              rw [show 1 + j = j + 1 by omega]
              exact h
            have H6 := isSixtieth_any t[j] (HT.out _ (List.getElem_mem hlt2)) wr HG2
            have HTK := Lib.hid (sixF_take hlt2 HS.out)
            have HNO := Lib.hid (sixF_none hlt2 HS.out)
            have HLT := Lib.hid (sixF_lt (t.take (j + 1)) v)
            have HV6 : Hid ((six t[j]).isSome = true → ∀ w, Calls Tryz.prog 179 #[.string (S t[j])] w fun e w' => e = .returned (.int .i64 (val t[j])) ∧ w' = w) := Lib.hid fun h => fun w => value_any _ (by rw [(six_digits h).2]; decide) (six_digits h).1 w
            have HVE : Hid (∀ q, six t[j] = some q → q = val t[j] ∧ q < 60) := Lib.hid fun q h => ⟨by
              have h2 := h
              unfold six at h2
              split at h2
              · exact (Option.some.inj h2).symm
              · simp at h2, six_lt h⟩
            clear HG2
            have hpos : Hid (1 < c ∨ t.length = 0) := Lib.hid (by omega)
            first
            | (exfalso; omega)
            | (cases h6 : six t[j] with
              | none =>
                have HNO := Lib.hid (HNO.out h6)
                rw [h6] at H6
                have H6' := Lib.hid H6
                clear h6 HV6 HTK H6 HVE
                generalize S t[j] = sp at *
                go_wp2_with fail
                go_at_call 180
                refine H6'.out.mono ?_
                rintro e w' ⟨rfl, hb'⟩
                have HB2 := Lib.hid (HB1.out.trans (hb'.mono HB1.out.size)); clear hb'
                go_wp2_with fail
                go_ret2
                rw [HR.out, HNO.out]
                exact ⟨rfl, HB2.out⟩
              | some q =>
                obtain ⟨rfl, hq⟩ := HVE.out q h6
                have HV6' := Lib.hid (HV6.out (by simp [h6]))
                rw [h6] at H6
                have H6' := Lib.hid H6
                have HTK' : Hid (sixF v (t.take (j + 1)) = some (60 * m + val t[j])) := Lib.hid (HTK.out.trans (by rw [h6]; rfl))
                clear h6 HV6 HTK H6 HVE HNO
                generalize S t[j] = sp at *
                generalize val t[j] = q at *
                go_wp2_with fail
                go_at_call 180
                refine H6'.out.mono ?_
                rintro e w' ⟨rfl, hb'⟩
                have HB2 := Lib.hid (HB1.out.trans (hb'.mono HB1.out.size)); clear hb'
                go_wp2_with fail
                go_at_call 179
                refine (HV6'.out _).mono ?_
                rintro e w2 ⟨rfl, rfl⟩
                go_wp2_with fail
                go_round
                case rel =>
                  have h1 := HLT.out _ HTK'.out
                  refine ⟨j + 1, 60 * m + q, by omega, by go_num, by go_num, rfl, ?_, HTK', HB2⟩
                  rw [List.length_take, Nat.min_eq_left (by omega)] at h1
                  have h2 : (v + 1) * 60 ^ (j + 1) ≤ 1099512 * 60 ^ 2 := Nat.mul_le_mul (by omega) (Nat.pow_le_pow_right (by decide) (by omega))
                  have h3 : 1099512 * 60 ^ 2 = 3958243200 := by decide
                  omega
                case measure => simp [intOf]; omega)
          · go_wp2_with fail
            go_ret2
            have h1 := HS.out
            rw [List.take_of_length_le (by omega)] at h1
            rw [HR.out, h1]
            exact ⟨rfl, HB1.out⟩
end Go.Proofs.YtdhdjfkknfbmhaaGreatDoor
