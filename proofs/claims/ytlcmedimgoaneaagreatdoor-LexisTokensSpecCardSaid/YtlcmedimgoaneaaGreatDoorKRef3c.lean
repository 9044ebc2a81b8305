/- The specification's Time: its walkC. -/
import Derived.Test.YtlcmedimgoaneaaGreatDoorKRef3
namespace Go.Proofs.YtlcmedimgoaneaaGreatDoor
open Go.RowKit

set_option maxHeartbeats 4000000 in
set_option maxRecDepth 100000 in
theorem refTime_walkC (su sw sb s1 s2 sa s3 : ByteArray) (pt colon twice nf : Bool) (len : Nat) (mi v n m : Int) (w : World)
    (_ : su.size ≤ 1000000) (h0 : ¬ 0 < su.size)
    (hlen : s1.size = len) (hmi : pt = false → mi = 0) (hm1 : mi < 1000000) (hm0 : -1 ≤ mi) (hv0 : 0 ≤ v) (hv1 : v < 1000000000000000000) (hvl : len ≤ 13 → v < 10000000000000) (hn0 : -1 ≤ n) (hn1 : n < 60) (hm20 : -1 ≤ m) (hm21 : m < 60)
    (HC1 : Hid (∀ w, Calls Tryz.prog 43 #[.string su, .int .u8 46] w fun e w' => e = .returned (.tuple #[.string sw, .string sb, .bool pt]) ∧ Below w.heap.size w w'))
    (HFR : Hid (∀ w, Calls Tryz.prog 44 #[.string sb] w fun e w' => e = .returned (.int .i64 mi) ∧ w' = w) ∨ pt = false)
    (HC2 : Hid (∀ w, Calls Tryz.prog 43 #[.string sw, .int .u8 58] w fun e w' => e = .returned (.tuple #[.string s1, .string s2, .bool colon]) ∧ Below w.heap.size w w'))
    (HNU : Hid (∀ w, Calls Tryz.prog 45 #[.string s1] w fun e w' => e = .returned (.bool nf) ∧ w' = w))
    (HNB : nf = true → Hid (∀ w, Calls Tryz.prog 46 #[.string s1] w fun e w' => e = .returned (.int .i64 v) ∧ w' = w))
    (HC3 : Hid (∀ w, Calls Tryz.prog 43 #[.string s2, .int .u8 58] w fun e w' => e = .returned (.tuple #[.string sa, .string s3, .bool twice]) ∧ Below w.heap.size w w'))
    (HS1 : Hid (∀ w, Calls Tryz.prog 47 #[.string sa] w fun e w' => e = .returned (.int .i64 n) ∧ w' = w))
    (HS2 : Hid (∀ w, Calls Tryz.prog 47 #[.string s3] w fun e w' => e = .returned (.int .i64 m) ∧ w' = w)) :
    Calls Tryz.prog 23 #[.string su] w fun e w' => e = .returned (.tuple #[.int .i64 (tR false pt colon twice nf len mi v n m).1, .int .i64 (tR false pt colon twice nf len mi v n m).2]) ∧ Below w.heap.size w w' := by
  cases pt with
  | false =>
    have hmi' := hmi rfl
    subst hmi'
    clear hmi HFR
    cases nf with
    | false =>
      have HR := Lib.hid (tR_bad (neg := false) (pt := false) (colon := colon) (twice := twice) (nf := false) (len := len) (mi := 0) (v := v) (n := n) (m := m) (Or.inl rfl))
      generalize tR false false colon twice false len 0 v n m = R at *
      go_enter Tryz.func23, Tryz.ntmps23
      go_wp2_with fail
      go_at_call 43
      refine (HC1.out _).mono ?_
      rintro e w1 ⟨rfl, hb1⟩
      have HB := Lib.hid hb1; clear hb1
      go_wp2_with fail
      go_at_call 43
      refine (HC2.out _).mono ?_
      rintro e w3 ⟨rfl, hb3⟩
      have HB3 := Lib.hid (HB.out.trans (hb3.mono HB.out.size)); clear hb3 HB
      go_wp2_with fail
      go_at_call 45
      refine (HNU.out _).mono ?_
      rintro e w4 ⟨rfl, rfl⟩
      go_wp2_with fail
      go_ret2
      exact ⟨ret2_eq (by rw [HR.out]) (by rw [HR.out]), HB3.out⟩
    | true =>
      by_cases h13 : 13 < len
      · have HR := Lib.hid (tR_bad (neg := false) (pt := false) (colon := colon) (twice := twice) (nf := true) (len := len) (mi := 0) (v := v) (n := n) (m := m) (Or.inr (Or.inl h13)))
        generalize tR false false colon twice true len 0 v n m = R at *
        go_enter Tryz.func23, Tryz.ntmps23
        go_wp2_with fail
        go_at_call 43
        refine (HC1.out _).mono ?_
        rintro e w1 ⟨rfl, hb1⟩
        have HB := Lib.hid hb1; clear hb1
        go_wp2_with fail
        go_at_call 43
        refine (HC2.out _).mono ?_
        rintro e w3 ⟨rfl, hb3⟩
        have HB3 := Lib.hid (HB.out.trans (hb3.mono HB.out.size)); clear hb3 HB
        go_wp2_with fail
        go_at_call 45
        refine (HNU.out _).mono ?_
        rintro e w4 ⟨rfl, rfl⟩
        go_wp2_with fail
        go_ret2
        exact ⟨ret2_eq (by rw [HR.out]) (by rw [HR.out]), HB3.out⟩
      · have hmi0 : ¬ (0 : Int) < 0 := by omega
        have HNBx := HNB rfl
        clear HNB
        have hv1 := hvl (by omega)
        cases colon with
        | false =>
          have HR := Lib.hid (tR_bad (neg := false) (pt := false) (colon := false) (twice := twice) (nf := true) (len := len) (mi := 0) (v := v) (n := n) (m := m) (Or.inr (Or.inr (Or.inr ⟨rfl, rfl⟩))))
          generalize tR false false false twice true len 0 v n m = R at *
          go_enter Tryz.func23, Tryz.ntmps23
          go_wp2_with fail
          go_at_call 43
          refine (HC1.out _).mono ?_
          rintro e w1 ⟨rfl, hb1⟩
          have HB := Lib.hid hb1; clear hb1
          go_wp2_with fail
          go_at_call 43
          refine (HC2.out _).mono ?_
          rintro e w3 ⟨rfl, hb3⟩
          have HB3 := Lib.hid (HB.out.trans (hb3.mono HB.out.size)); clear hb3 HB
          go_wp2_with fail
          go_at_call 45
          refine (HNU.out _).mono ?_
          rintro e w4 ⟨rfl, rfl⟩
          go_wp2_with fail
          go_ret2
          exact ⟨ret2_eq (by rw [HR.out]) (by rw [HR.out]), HB3.out⟩
        | true =>
          by_cases hn : n < 0
          · have hr0 := (tR_ok (neg := false) (pt := false) (colon := true) (twice := twice) (nf := true) (len := len) (mi := 0) (v := v) (n := n) (m := m) (by simp [h13, hmi0]))
            rw [if_pos ⟨rfl, hn⟩] at hr0
            have HR := Lib.hid hr0
            clear hr0
            generalize tR false false true twice true len 0 v n m = R at *
            go_enter Tryz.func23, Tryz.ntmps23
            go_wp2_with fail
            go_at_call 43
            refine (HC1.out _).mono ?_
            rintro e w1 ⟨rfl, hb1⟩
            have HB := Lib.hid hb1; clear hb1
            go_wp2_with fail
            go_at_call 43
            refine (HC2.out _).mono ?_
            rintro e w3 ⟨rfl, hb3⟩
            have HB3 := Lib.hid (HB.out.trans (hb3.mono HB.out.size)); clear hb3 HB
            go_wp2_with fail
            go_at_call 45
            refine (HNU.out _).mono ?_
            rintro e w4 ⟨rfl, rfl⟩
            go_wp2_with fail
            go_at_call 46
            refine (HNBx.out _).mono ?_
            rintro e w5 ⟨rfl, rfl⟩
            go_wp2_with fail
            go_at_call 43
            refine (HC3.out _).mono ?_
            rintro e w6 ⟨rfl, hb6⟩
            have HB6 := Lib.hid (HB3.out.trans (hb6.mono HB3.out.size)); clear hb6 HB3
            go_wp2_with fail
            go_at_call 47
            refine (HS1.out _).mono ?_
            rintro e w7 ⟨rfl, rfl⟩
            go_wp2_with fail
            go_ret2
            exact ⟨ret2_eq (by rw [HR.out]) (by rw [HR.out]), HB6.out⟩
          · cases twice with
            | false =>
              have hr0 := (tR_ok (neg := false) (pt := false) (colon := true) (twice := false) (nf := true) (len := len) (mi := 0) (v := v) (n := n) (m := m) (by simp [h13, hmi0]))
              rw [if_neg (fun h => hn h.2), if_neg (by simp), if_pos rfl, if_neg (by decide)] at hr0
              have HR := Lib.hid hr0
              clear hr0
              generalize tR false false true false true len 0 v n m = R at *
              go_enter Tryz.func23, Tryz.ntmps23
              go_wp2_with fail
              go_at_call 43
              refine (HC1.out _).mono ?_
              rintro e w1 ⟨rfl, hb1⟩
              have HB := Lib.hid hb1; clear hb1
              go_wp2_with fail
              go_at_call 43
              refine (HC2.out _).mono ?_
              rintro e w3 ⟨rfl, hb3⟩
              have HB3 := Lib.hid (HB.out.trans (hb3.mono HB.out.size)); clear hb3 HB
              go_wp2_with fail
              go_at_call 45
              refine (HNU.out _).mono ?_
              rintro e w4 ⟨rfl, rfl⟩
              go_wp2_with fail
              go_at_call 46
              refine (HNBx.out _).mono ?_
              rintro e w5 ⟨rfl, rfl⟩
              go_wp2_with fail
              go_at_call 43
              refine (HC3.out _).mono ?_
              rintro e w6 ⟨rfl, hb6⟩
              have HB6 := Lib.hid (HB3.out.trans (hb6.mono HB3.out.size)); clear hb6 HB3
              go_wp2_with fail
              go_at_call 47
              refine (HS1.out _).mono ?_
              rintro e w7 ⟨rfl, rfl⟩
              obtain ⟨x, hx⟩ : ∃ x : Int, x = 60 * v + n := ⟨_, rfl⟩
              rw [← hx] at HR
              by_cases hs : 1099511627776 < x
              · unfold tF at HR
                simp only [Int.add_zero] at HR
                rw [if_pos hs] at HR
                go_wp2_with fail
                go_ret2
                exact ⟨ret2_eq (by rw [HR.out]) (by rw [HR.out]), HB6.out⟩
              · unfold tF at HR
                simp only [Int.add_zero] at HR
                rw [if_neg hs] at HR
                by_cases hmax : 1099511627776 < 1000000 * x
                · rw [if_pos (Or.inl hmax)] at HR
                  go_wp2_with fail
                  go_ret2
                  exact ⟨ret2_eq (by rw [HR.out]) (by rw [HR.out]), HB6.out⟩
                · rw [if_neg (fun h4 => h4.elim hmax fun h => absurd h.1 (by decide)), if_neg (by decide)] at HR
                  go_wp2_with fail
                  go_ret2
                  exact ⟨ret2_eq (by rw [HR.out]; omega) (by rw [HR.out]), HB6.out⟩
            | true =>
              by_cases hm : m < 0
              · have hr0 := (tR_ok (neg := false) (pt := false) (colon := true) (twice := true) (nf := true) (len := len) (mi := 0) (v := v) (n := n) (m := m) (by simp [h13, hmi0]))
                rw [if_neg (fun h => hn h.2), if_pos ⟨rfl, rfl, hm⟩] at hr0
                have HR := Lib.hid hr0
                clear hr0
                generalize tR false false true true true len 0 v n m = R at *
                go_enter Tryz.func23, Tryz.ntmps23
                go_wp2_with fail
                go_at_call 43
                refine (HC1.out _).mono ?_
                rintro e w1 ⟨rfl, hb1⟩
                have HB := Lib.hid hb1; clear hb1
                go_wp2_with fail
                go_at_call 43
                refine (HC2.out _).mono ?_
                rintro e w3 ⟨rfl, hb3⟩
                have HB3 := Lib.hid (HB.out.trans (hb3.mono HB.out.size)); clear hb3 HB
                go_wp2_with fail
                go_at_call 45
                refine (HNU.out _).mono ?_
                rintro e w4 ⟨rfl, rfl⟩
                go_wp2_with fail
                go_at_call 46
                refine (HNBx.out _).mono ?_
                rintro e w5 ⟨rfl, rfl⟩
                go_wp2_with fail
                go_at_call 43
                refine (HC3.out _).mono ?_
                rintro e w6 ⟨rfl, hb6⟩
                have HB6 := Lib.hid (HB3.out.trans (hb6.mono HB3.out.size)); clear hb6 HB3
                go_wp2_with fail
                go_at_call 47
                refine (HS1.out _).mono ?_
                rintro e w7 ⟨rfl, rfl⟩
                go_wp2_with fail
                go_at_call 47
                refine (HS2.out _).mono ?_
                rintro e w8 ⟨rfl, rfl⟩
                go_wp2_with fail
                go_ret2
                exact ⟨ret2_eq (by rw [HR.out]) (by rw [HR.out]), HB6.out⟩
              · have hr0 := (tR_ok (neg := false) (pt := false) (colon := true) (twice := true) (nf := true) (len := len) (mi := 0) (v := v) (n := n) (m := m) (by simp [h13, hmi0]))
                rw [if_neg (fun h => hn h.2), if_neg (fun h => hm h.2.2), if_pos rfl, if_pos rfl] at hr0
                have HR := Lib.hid hr0
                clear hr0
                generalize tR false false true true true len 0 v n m = R at *
                go_enter Tryz.func23, Tryz.ntmps23
                go_wp2_with fail
                go_at_call 43
                refine (HC1.out _).mono ?_
                rintro e w1 ⟨rfl, hb1⟩
                have HB := Lib.hid hb1; clear hb1
                go_wp2_with fail
                go_at_call 43
                refine (HC2.out _).mono ?_
                rintro e w3 ⟨rfl, hb3⟩
                have HB3 := Lib.hid (HB.out.trans (hb3.mono HB.out.size)); clear hb3 HB
                go_wp2_with fail
                go_at_call 45
                refine (HNU.out _).mono ?_
                rintro e w4 ⟨rfl, rfl⟩
                go_wp2_with fail
                go_at_call 46
                refine (HNBx.out _).mono ?_
                rintro e w5 ⟨rfl, rfl⟩
                go_wp2_with fail
                go_at_call 43
                refine (HC3.out _).mono ?_
                rintro e w6 ⟨rfl, hb6⟩
                have HB6 := Lib.hid (HB3.out.trans (hb6.mono HB3.out.size)); clear hb6 HB3
                go_wp2_with fail
                go_at_call 47
                refine (HS1.out _).mono ?_
                rintro e w7 ⟨rfl, rfl⟩
                go_wp2_with fail
                go_at_call 47
                refine (HS2.out _).mono ?_
                rintro e w8 ⟨rfl, rfl⟩
                obtain ⟨x, hx⟩ : ∃ x : Int, x = 60 * (60 * v + n) + m := ⟨_, rfl⟩
                rw [← hx] at HR
                by_cases hs : 1099511627776 < x
                · unfold tF at HR
                  simp only [Int.add_zero] at HR
                  rw [if_pos hs] at HR
                  go_wp2_with fail
                  go_ret2
                  exact ⟨ret2_eq (by rw [HR.out]) (by rw [HR.out]), HB6.out⟩
                · unfold tF at HR
                  simp only [Int.add_zero] at HR
                  rw [if_neg hs] at HR
                  by_cases hmax : 1099511627776 < 1000000 * x
                  · rw [if_pos (Or.inl hmax)] at HR
                    go_wp2_with fail
                    go_ret2
                    exact ⟨ret2_eq (by rw [HR.out]) (by rw [HR.out]), HB6.out⟩
                  · rw [if_neg (fun h4 => h4.elim hmax fun h => absurd h.1 (by decide)), if_neg (by decide)] at HR
                    go_wp2_with fail
                    go_ret2
                    exact ⟨ret2_eq (by rw [HR.out]; omega) (by rw [HR.out]), HB6.out⟩
  | true =>
    have HFR := HFR.resolve_right (by decide)
    clear hmi
    cases nf with
    | false =>
      have HR := Lib.hid (tR_bad (neg := false) (pt := true) (colon := colon) (twice := twice) (nf := false) (len := len) (mi := mi) (v := v) (n := n) (m := m) (Or.inl rfl))
      generalize tR false true colon twice false len mi v n m = R at *
      go_enter Tryz.func23, Tryz.ntmps23
      go_wp2_with fail
      go_at_call 43
      refine (HC1.out _).mono ?_
      rintro e w1 ⟨rfl, hb1⟩
      have HB := Lib.hid hb1; clear hb1
      go_wp2_with fail
      go_at_call 44
      refine (HFR.out _).mono ?_
      rintro e w2 ⟨rfl, rfl⟩
      go_wp2_with fail
      go_at_call 43
      refine (HC2.out _).mono ?_
      rintro e w3 ⟨rfl, hb3⟩
      have HB3 := Lib.hid (HB.out.trans (hb3.mono HB.out.size)); clear hb3 HB
      go_wp2_with fail
      go_at_call 45
      refine (HNU.out _).mono ?_
      rintro e w4 ⟨rfl, rfl⟩
      go_wp2_with fail
      go_ret2
      exact ⟨ret2_eq (by rw [HR.out]) (by rw [HR.out]), HB3.out⟩
    | true =>
      by_cases h13 : 13 < len
      · have HR := Lib.hid (tR_bad (neg := false) (pt := true) (colon := colon) (twice := twice) (nf := true) (len := len) (mi := mi) (v := v) (n := n) (m := m) (Or.inr (Or.inl h13)))
        generalize tR false true colon twice true len mi v n m = R at *
        go_enter Tryz.func23, Tryz.ntmps23
        go_wp2_with fail
        go_at_call 43
        refine (HC1.out _).mono ?_
        rintro e w1 ⟨rfl, hb1⟩
        have HB := Lib.hid hb1; clear hb1
        go_wp2_with fail
        go_at_call 44
        refine (HFR.out _).mono ?_
        rintro e w2 ⟨rfl, rfl⟩
        go_wp2_with fail
        go_at_call 43
        refine (HC2.out _).mono ?_
        rintro e w3 ⟨rfl, hb3⟩
        have HB3 := Lib.hid (HB.out.trans (hb3.mono HB.out.size)); clear hb3 HB
        go_wp2_with fail
        go_at_call 45
        refine (HNU.out _).mono ?_
        rintro e w4 ⟨rfl, rfl⟩
        go_wp2_with fail
        go_ret2
        exact ⟨ret2_eq (by rw [HR.out]) (by rw [HR.out]), HB3.out⟩
      · by_cases hmi0 : mi < 0
        · have HR := Lib.hid (tR_bad (neg := false) (pt := true) (colon := colon) (twice := twice) (nf := true) (len := len) (mi := mi) (v := v) (n := n) (m := m) (Or.inr (Or.inr (Or.inl hmi0))))
          generalize tR false true colon twice true len mi v n m = R at *
          go_enter Tryz.func23, Tryz.ntmps23
          go_wp2_with fail
          go_at_call 43
          refine (HC1.out _).mono ?_
          rintro e w1 ⟨rfl, hb1⟩
          have HB := Lib.hid hb1; clear hb1
          go_wp2_with fail
          go_at_call 44
          refine (HFR.out _).mono ?_
          rintro e w2 ⟨rfl, rfl⟩
          go_wp2_with fail
          go_at_call 43
          refine (HC2.out _).mono ?_
          rintro e w3 ⟨rfl, hb3⟩
          have HB3 := Lib.hid (HB.out.trans (hb3.mono HB.out.size)); clear hb3 HB
          go_wp2_with fail
          go_at_call 45
          refine (HNU.out _).mono ?_
          rintro e w4 ⟨rfl, rfl⟩
          go_wp2_with fail
          go_ret2
          exact ⟨ret2_eq (by rw [HR.out]) (by rw [HR.out]), HB3.out⟩
        · have hmi00 : 0 ≤ mi := by omega
          have HNBx := HNB rfl
          clear HNB
          have hv1 := hvl (by omega)
          cases colon with
          | false =>
            have hr0 := (tR_ok (neg := false) (pt := true) (colon := false) (twice := twice) (nf := true) (len := len) (mi := mi) (v := v) (n := n) (m := m) (by simp [h13, hmi0]))
            rw [if_neg (by simp), if_neg (by simp), if_neg (by decide)] at hr0
            have HR := Lib.hid hr0
            clear hr0
            generalize tR false true false twice true len mi v n m = R at *
            obtain ⟨x, hx⟩ : ∃ x : Int, x = v := ⟨_, rfl⟩
            rw [← hx] at HR HNBx hv0 hvl hv1
            go_enter Tryz.func23, Tryz.ntmps23
            go_wp2_with fail
            go_at_call 43
            refine (HC1.out _).mono ?_
            rintro e w1 ⟨rfl, hb1⟩
            have HB := Lib.hid hb1; clear hb1
            go_wp2_with fail
            go_at_call 44
            refine (HFR.out _).mono ?_
            rintro e w2 ⟨rfl, rfl⟩
            go_wp2_with fail
            go_at_call 43
            refine (HC2.out _).mono ?_
            rintro e w3 ⟨rfl, hb3⟩
            have HB3 := Lib.hid (HB.out.trans (hb3.mono HB.out.size)); clear hb3 HB
            go_wp2_with fail
            go_at_call 45
            refine (HNU.out _).mono ?_
            rintro e w4 ⟨rfl, rfl⟩
            go_wp2_with fail
            go_at_call 46
            refine (HNBx.out _).mono ?_
            rintro e w5 ⟨rfl, rfl⟩
            by_cases hs : 1099511627776 < x
            · unfold tF at HR
              rw [if_pos hs] at HR
              go_wp2_with fail
              go_ret2
              exact ⟨ret2_eq (by rw [HR.out]) (by rw [HR.out]), HB3.out⟩
            · unfold tF at HR
              rw [if_neg hs] at HR
              by_cases hmax : 1099511627776 < 1000000 * x + mi
              · rw [if_pos (Or.inl hmax)] at HR
                go_wp2_with fail
                go_ret2
                exact ⟨ret2_eq (by rw [HR.out]) (by rw [HR.out]), HB3.out⟩
              · rw [if_neg (fun h4 => h4.elim hmax fun h => absurd h.1 (by decide)), if_neg (by decide)] at HR
                go_wp2_with fail
                go_ret2
                exact ⟨ret2_eq (by rw [HR.out]; omega) (by rw [HR.out]), HB3.out⟩
          | true =>
            by_cases hn : n < 0
            · have hr0 := (tR_ok (neg := false) (pt := true) (colon := true) (twice := twice) (nf := true) (len := len) (mi := mi) (v := v) (n := n) (m := m) (by simp [h13, hmi0]))
              rw [if_pos ⟨rfl, hn⟩] at hr0
              have HR := Lib.hid hr0
              clear hr0
              generalize tR false true true twice true len mi v n m = R at *
              go_enter Tryz.func23, Tryz.ntmps23
              go_wp2_with fail
              go_at_call 43
              refine (HC1.out _).mono ?_
              rintro e w1 ⟨rfl, hb1⟩
              have HB := Lib.hid hb1; clear hb1
              go_wp2_with fail
              go_at_call 44
              refine (HFR.out _).mono ?_
              rintro e w2 ⟨rfl, rfl⟩
              go_wp2_with fail
              go_at_call 43
              refine (HC2.out _).mono ?_
              rintro e w3 ⟨rfl, hb3⟩
              have HB3 := Lib.hid (HB.out.trans (hb3.mono HB.out.size)); clear hb3 HB
              go_wp2_with fail
              go_at_call 45
              refine (HNU.out _).mono ?_
              rintro e w4 ⟨rfl, rfl⟩
              go_wp2_with fail
              go_at_call 46
              refine (HNBx.out _).mono ?_
              rintro e w5 ⟨rfl, rfl⟩
              go_wp2_with fail
              go_at_call 43
              refine (HC3.out _).mono ?_
              rintro e w6 ⟨rfl, hb6⟩
              have HB6 := Lib.hid (HB3.out.trans (hb6.mono HB3.out.size)); clear hb6 HB3
              go_wp2_with fail
              go_at_call 47
              refine (HS1.out _).mono ?_
              rintro e w7 ⟨rfl, rfl⟩
              go_wp2_with fail
              go_ret2
              exact ⟨ret2_eq (by rw [HR.out]) (by rw [HR.out]), HB6.out⟩
            · cases twice with
              | false =>
                have hr0 := (tR_ok (neg := false) (pt := true) (colon := true) (twice := false) (nf := true) (len := len) (mi := mi) (v := v) (n := n) (m := m) (by simp [h13, hmi0]))
                rw [if_neg (fun h => hn h.2), if_neg (by simp), if_pos rfl, if_neg (by decide)] at hr0
                have HR := Lib.hid hr0
                clear hr0
                generalize tR false true true false true len mi v n m = R at *
                go_enter Tryz.func23, Tryz.ntmps23
                go_wp2_with fail
                go_at_call 43
                refine (HC1.out _).mono ?_
                rintro e w1 ⟨rfl, hb1⟩
                have HB := Lib.hid hb1; clear hb1
                go_wp2_with fail
                go_at_call 44
                refine (HFR.out _).mono ?_
                rintro e w2 ⟨rfl, rfl⟩
                go_wp2_with fail
                go_at_call 43
                refine (HC2.out _).mono ?_
                rintro e w3 ⟨rfl, hb3⟩
                have HB3 := Lib.hid (HB.out.trans (hb3.mono HB.out.size)); clear hb3 HB
                go_wp2_with fail
                go_at_call 45
                refine (HNU.out _).mono ?_
                rintro e w4 ⟨rfl, rfl⟩
                go_wp2_with fail
                go_at_call 46
                refine (HNBx.out _).mono ?_
                rintro e w5 ⟨rfl, rfl⟩
                go_wp2_with fail
                go_at_call 43
                refine (HC3.out _).mono ?_
                rintro e w6 ⟨rfl, hb6⟩
                have HB6 := Lib.hid (HB3.out.trans (hb6.mono HB3.out.size)); clear hb6 HB3
                go_wp2_with fail
                go_at_call 47
                refine (HS1.out _).mono ?_
                rintro e w7 ⟨rfl, rfl⟩
                obtain ⟨x, hx⟩ : ∃ x : Int, x = 60 * v + n := ⟨_, rfl⟩
                rw [← hx] at HR
                by_cases hs : 1099511627776 < x
                · unfold tF at HR
                  rw [if_pos hs] at HR
                  go_wp2_with fail
                  go_ret2
                  exact ⟨ret2_eq (by rw [HR.out]) (by rw [HR.out]), HB6.out⟩
                · unfold tF at HR
                  rw [if_neg hs] at HR
                  by_cases hmax : 1099511627776 < 1000000 * x + mi
                  · rw [if_pos (Or.inl hmax)] at HR
                    go_wp2_with fail
                    go_ret2
                    exact ⟨ret2_eq (by rw [HR.out]) (by rw [HR.out]), HB6.out⟩
                  · rw [if_neg (fun h4 => h4.elim hmax fun h => absurd h.1 (by decide)), if_neg (by decide)] at HR
                    go_wp2_with fail
                    go_ret2
                    exact ⟨ret2_eq (by rw [HR.out]; omega) (by rw [HR.out]), HB6.out⟩
              | true =>
                by_cases hm : m < 0
                · have hr0 := (tR_ok (neg := false) (pt := true) (colon := true) (twice := true) (nf := true) (len := len) (mi := mi) (v := v) (n := n) (m := m) (by simp [h13, hmi0]))
                  rw [if_neg (fun h => hn h.2), if_pos ⟨rfl, rfl, hm⟩] at hr0
                  have HR := Lib.hid hr0
                  clear hr0
                  generalize tR false true true true true len mi v n m = R at *
                  go_enter Tryz.func23, Tryz.ntmps23
                  go_wp2_with fail
                  go_at_call 43
                  refine (HC1.out _).mono ?_
                  rintro e w1 ⟨rfl, hb1⟩
                  have HB := Lib.hid hb1; clear hb1
                  go_wp2_with fail
                  go_at_call 44
                  refine (HFR.out _).mono ?_
                  rintro e w2 ⟨rfl, rfl⟩
                  go_wp2_with fail
                  go_at_call 43
                  refine (HC2.out _).mono ?_
                  rintro e w3 ⟨rfl, hb3⟩
                  have HB3 := Lib.hid (HB.out.trans (hb3.mono HB.out.size)); clear hb3 HB
                  go_wp2_with fail
                  go_at_call 45
                  refine (HNU.out _).mono ?_
                  rintro e w4 ⟨rfl, rfl⟩
                  go_wp2_with fail
                  go_at_call 46
                  refine (HNBx.out _).mono ?_
                  rintro e w5 ⟨rfl, rfl⟩
                  go_wp2_with fail
                  go_at_call 43
                  refine (HC3.out _).mono ?_
                  rintro e w6 ⟨rfl, hb6⟩
                  have HB6 := Lib.hid (HB3.out.trans (hb6.mono HB3.out.size)); clear hb6 HB3
                  go_wp2_with fail
                  go_at_call 47
                  refine (HS1.out _).mono ?_
                  rintro e w7 ⟨rfl, rfl⟩
                  go_wp2_with fail
                  go_at_call 47
                  refine (HS2.out _).mono ?_
                  rintro e w8 ⟨rfl, rfl⟩
                  go_wp2_with fail
                  go_ret2
                  exact ⟨ret2_eq (by rw [HR.out]) (by rw [HR.out]), HB6.out⟩
                · have hr0 := (tR_ok (neg := false) (pt := true) (colon := true) (twice := true) (nf := true) (len := len) (mi := mi) (v := v) (n := n) (m := m) (by simp [h13, hmi0]))
                  rw [if_neg (fun h => hn h.2), if_neg (fun h => hm h.2.2), if_pos rfl, if_pos rfl] at hr0
                  have HR := Lib.hid hr0
                  clear hr0
                  generalize tR false true true true true len mi v n m = R at *
                  go_enter Tryz.func23, Tryz.ntmps23
                  go_wp2_with fail
                  go_at_call 43
                  refine (HC1.out _).mono ?_
                  rintro e w1 ⟨rfl, hb1⟩
                  have HB := Lib.hid hb1; clear hb1
                  go_wp2_with fail
                  go_at_call 44
                  refine (HFR.out _).mono ?_
                  rintro e w2 ⟨rfl, rfl⟩
                  go_wp2_with fail
                  go_at_call 43
                  refine (HC2.out _).mono ?_
                  rintro e w3 ⟨rfl, hb3⟩
                  have HB3 := Lib.hid (HB.out.trans (hb3.mono HB.out.size)); clear hb3 HB
                  go_wp2_with fail
                  go_at_call 45
                  refine (HNU.out _).mono ?_
                  rintro e w4 ⟨rfl, rfl⟩
                  go_wp2_with fail
                  go_at_call 46
                  refine (HNBx.out _).mono ?_
                  rintro e w5 ⟨rfl, rfl⟩
                  go_wp2_with fail
                  go_at_call 43
                  refine (HC3.out _).mono ?_
                  rintro e w6 ⟨rfl, hb6⟩
                  have HB6 := Lib.hid (HB3.out.trans (hb6.mono HB3.out.size)); clear hb6 HB3
                  go_wp2_with fail
                  go_at_call 47
                  refine (HS1.out _).mono ?_
                  rintro e w7 ⟨rfl, rfl⟩
                  go_wp2_with fail
                  go_at_call 47
                  refine (HS2.out _).mono ?_
                  rintro e w8 ⟨rfl, rfl⟩
                  obtain ⟨x, hx⟩ : ∃ x : Int, x = 60 * (60 * v + n) + m := ⟨_, rfl⟩
                  rw [← hx] at HR
                  by_cases hs : 1099511627776 < x
                  · unfold tF at HR
                    rw [if_pos hs] at HR
                    go_wp2_with fail
                    go_ret2
                    exact ⟨ret2_eq (by rw [HR.out]) (by rw [HR.out]), HB6.out⟩
                  · unfold tF at HR
                    rw [if_neg hs] at HR
                    by_cases hmax : 1099511627776 < 1000000 * x + mi
                    · rw [if_pos (Or.inl hmax)] at HR
                      go_wp2_with fail
                      go_ret2
                      exact ⟨ret2_eq (by rw [HR.out]) (by rw [HR.out]), HB6.out⟩
                    · rw [if_neg (fun h4 => h4.elim hmax fun h => absurd h.1 (by decide)), if_neg (by decide)] at HR
                      go_wp2_with fail
                      go_ret2
                      exact ⟨ret2_eq (by rw [HR.out]; omega) (by rw [HR.out]), HB6.out⟩
end Go.Proofs.YtlcmedimgoaneaaGreatDoor
