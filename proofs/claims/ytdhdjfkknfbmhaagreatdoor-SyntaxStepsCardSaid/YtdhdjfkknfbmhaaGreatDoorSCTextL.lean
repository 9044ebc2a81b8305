/- The statements' writing of conditions. -/
import Derived.Test.YtdhdjfkknfbmhaaGreatDoorSPrintL
import Derived.Test.YtdhdjfkknfbmhaaGreatDoorSCells
import Derived.Test.YtdhdjfkknfbmhaaGreatDoorKTime
import Derived.Deep.RegionHeld3
import Derived.Deep.QuietTactic
import Derived.BigQuiet
namespace Go.Proofs.YtdhdjfkknfbmhaaGreatDoor
open Go.RowKit

/-- What condText comes to. -/
def CEnd (f : Nat) (c : Cd) (e : Ending) : Prop :=
  match condT f c with
  | some s => e = .returned (.tuple #[.string (S s), .bool true])
  | none => ∃ s : Bs, s.length ≤ bC f ∧ e = .returned (.tuple #[.string (S s), .bool false])
theorem CEnd.no {f : Nat} {c : Cd} (h : condT f c = none) : CEnd f c (.returned (.tuple #[.string ⟨#[]⟩, .bool false])) := by
  unfold CEnd; rw [h]
  exact ⟨[], by simp, rfl⟩

theorem itoaB {V wd : World} (h : Below V.heap.size V wd) (hG : Gl V) (m : Nat) (hm : (m : Int) ≤ 1125899906842624) : Calls Tryz.prog 18 #[.int .i64 m] wd fun e w' => e = .returned (.string (S (Lib.decDigits m))) ∧ Hid (Below V.heap.size V w') :=
  (itoa_any m (by omega) wd (hG.bel' h)).mono fun e w' hh => ⟨hh.1, Lib.hid (h.trans (hh.2.mono h.size))⟩
theorem held3 {a0 a1 a2 : Prop} {W w' : World} (h : a0 ∧ a1 ∧ a2 ∧ Hid (Below W.heap.size W w')) : Below W.heap.size W w' := h.2.2.2.out
theorem leafText (x y z : Bs) (b : ByteArray) (hb : b = S y) : S x ++ b ++ S z = S (x ++ (y ++ z)) := by rw [hb, S_append, S_append, List.append_assoc]
set_option maxHeartbeats 4000000 in
set_option maxRecDepth 100000 in
theorem condText_leaf (f d : Nat) (v n : Int) (ps : List Cd) (hd : d ≤ 7) (w : World) (hG : Gl w) (p : Option Addr) (cap : Nat) :
    Calls Tryz.prog 39 #[.agg #[.int .i64 1, .int .i64 v, .int .i64 n, .slice p ps.length cap], .int .i64 d] w fun e w' => CEnd (f + 1) (.mk 1 v n ps) e ∧ Below w.heap.size w w' := by
  have hdi : (d : Int) ≤ 7 := by omega
  have HB0 := Lib.hid ((Below.refl w.heap.size w).alloc (Nat.le_refl _) (.cells #[.int .i64 1, .int .i64 v, .int .i64 n, .slice p ps.length cap] 49))
  by_cases hc : 1 ≤ v ∧ v ≤ 3 ∧ 0 ≤ n ∧ n ≤ 1125899906842624 ∧ ps.length = 0
  · obtain ⟨hv1, hv3, hn, hn2, hp⟩ := hc
    have HE : Hid (CEnd (f + 1) (.mk 1 v n ps) (.returned (.tuple #[.string (S (varN v ++ ([32] ++ ([62, 61] ++ ([32] ++ Lib.decDigits n.toNat))))), .bool true]))) := Lib.hid (by
      unfold CEnd condT
      rw [if_pos rfl, if_pos ⟨hv1, hv3, hn, hn2, hp⟩])
    obtain ⟨m, rfl⟩ := Int.eq_ofNat_of_zero_le hn
    have hpi : ¬ (0 : Int) < (ps.length : Int) := by omega
    generalize CEnd (f + 1) (.mk 1 v m ps) = CE at *
    generalize ps.length = pl at *
    have W1 := Cells.new w [.int .i64 1, .int .i64 v, .int .i64 m, .slice p pl cap] 49 (fun o => by simp [go_sem])
    have W2 := W1.bel ((Below.refl _ _).alloc (Nat.le_refl _) (.cells #[.string ⟨#[]⟩, .string ⟨#[100, 105, 115, 116, 97, 110, 99, 101]⟩, .string ⟨#[102, 105, 101, 108, 100]⟩, .string ⟨#[115, 104, 111, 114, 116]⟩] 9))
    have W3 := Cells.new (w.alloc (.cells #[.int .i64 1, .int .i64 v, .int .i64 m, .slice p pl cap] 49)) [.string ⟨#[]⟩, .string ⟨#[100, 105, 115, 116, 97, 110, 99, 101]⟩, .string ⟨#[102, 105, 101, 108, 100]⟩, .string ⟨#[115, 104, 111, 114, 116]⟩] 9 (fun o => by simp [go_sem])
    have hb2 := (HB0.out.alloc HB0.out.size (.cells #[.string ⟨#[]⟩, .string ⟨#[100, 105, 115, 116, 97, 110, 99, 101]⟩, .string ⟨#[102, 105, 101, 108, 100]⟩, .string ⟨#[115, 104, 111, 114, 116]⟩] 9))
    have HB2 := Lib.hid hb2
    have HG2 := Lib.hid (hG.bel' hb2)
    have HW : Hid (Cells ((w.alloc (.cells #[.int .i64 1, .int .i64 v, .int .i64 m, .slice p pl cap] 49)).alloc (.cells #[.string ⟨#[]⟩, .string ⟨#[100, 105, 115, 116, 97, 110, 99, 101]⟩, .string ⟨#[102, 105, 101, 108, 100]⟩, .string ⟨#[115, 104, 111, 114, 116]⟩] 9)) w.heap.size [.int .i64 1, .int .i64 v, .int .i64 m, .slice p pl cap] ∧
      Cells ((w.alloc (.cells #[.int .i64 1, .int .i64 v, .int .i64 m, .slice p pl cap] 49)).alloc (.cells #[.string ⟨#[]⟩, .string ⟨#[100, 105, 115, 116, 97, 110, 99, 101]⟩, .string ⟨#[102, 105, 101, 108, 100]⟩, .string ⟨#[115, 104, 111, 114, 116]⟩] 9)) (w.heap.size + 1) [.string ⟨#[]⟩, .string ⟨#[100, 105, 115, 116, 97, 110, 99, 101]⟩, .string ⟨#[102, 105, 101, 108, 100]⟩, .string ⟨#[115, 104, 111, 114, 116]⟩]) := Lib.hid ⟨W2, by rw [World.size_alloc] at W3; exact W3⟩
    clear W1 W2 W3 hb2 hG HB0 hp
    have hsm : (S (Lib.decDigits m)).size ≤ 20 := by
      have e16 : (10 : Nat) ^ 16 = 10000000000000000 := by decide
      have := (decq_len 15 m (by omega)).2
      rw [S_size]; omega
    have hv : v = 1 ∨ v = 2 ∨ v = 3 := by omega
    rcases hv with rfl | rfl | rfl
    · go_enter Tryz.func39, Tryz.ntmps39
      go_wp2_with fail
      generalize (w.alloc (.cells #[.int .i64 1, .int .i64 1, .int .i64 m, .slice p pl cap] 49)).alloc (.cells #[.string ⟨#[]⟩, .string ⟨#[100, 105, 115, 116, 97, 110, 99, 101]⟩, .string ⟨#[102, 105, 101, 108, 100]⟩, .string ⟨#[115, 104, 111, 114, 116]⟩] 9) = V at *
      have HX : Hid (∀ w', Below V.heap.size V w' → w'.cell? ⟨w.heap.size, 1, none⟩ = some (.int .i64 1) ∧ w'.cell? ⟨w.heap.size, 2, none⟩ = some (.int .i64 m) ∧ w'.cell? ⟨w.heap.size + 1, 1, none⟩ = some (.string (S wDistance)) ∧ Hid (Below V.heap.size V w')) := Lib.hid fun w' h =>
        ⟨(HW.out.1.bel h).c 1 _ rfl, (HW.out.1.bel h).c 2 _ rfl, (HW.out.2.bel h).c 1 _ rfl, Lib.hid h⟩
      have hsw : (S wDistance).size ≤ 8 := by decide
      have HM := Lib.hid hn2
      have hq1 : ¬ 9223372036854775807 < (S wDistance).size + 4 := by omega
      have hq2 : ¬ 9223372036854775807 < (S wDistance).size + 4 + (S (Lib.decDigits m)).size := by omega
      have HTX : Hid (S wDistance ++ ⟨#[32, 62, 61, 32]⟩ ++ S (Lib.decDigits m) = S (varN 1 ++ ([32] ++ ([62, 61] ++ ([32] ++ Lib.decDigits ((m : Int).toNat)))))) := Lib.hid (leafText wDistance [32, 62, 61, 32] (Lib.decDigits m) _ rfl)
      clear HW hn hn2 hv1 hv3
      go_region_held3 (fun w' => w'.cell? ⟨w.heap.size, 1, none⟩ = some (.int .i64 1) ∧ w'.cell? ⟨w.heap.size, 2, none⟩ = some (.int .i64 m) ∧ w'.cell? ⟨w.heap.size + 1, 1, none⟩ = some (.string (S wDistance)) ∧ Hid (Below V.heap.size V w'))
        (first
          | with_reducible exact HX.out _ (Below.refl _ _).drew
          | with_reducible exact HX.out _ (Below.refl _ _)
          | with_reducible exact HX.out _ hb1.out
          | assumption | go_keep)
        (first
          | (go_at_call 18; with_reducible refine (itoaB (held3 (W := V) (by assumption)) HG2.out m HM.out).mono ?_; rintro e w' ⟨rfl, hb1⟩))
      all_goals (
        go_wp2_with fail
        go_ret2
        rw [HTX.out]
        exact ⟨HE.out, HB2.out.trans ((held3 (W := V) (by assumption)).mono HB2.out.size)⟩)
    · go_enter Tryz.func39, Tryz.ntmps39
      go_wp2_with fail
      generalize (w.alloc (.cells #[.int .i64 1, .int .i64 2, .int .i64 m, .slice p pl cap] 49)).alloc (.cells #[.string ⟨#[]⟩, .string ⟨#[100, 105, 115, 116, 97, 110, 99, 101]⟩, .string ⟨#[102, 105, 101, 108, 100]⟩, .string ⟨#[115, 104, 111, 114, 116]⟩] 9) = V at *
      have HX : Hid (∀ w', Below V.heap.size V w' → w'.cell? ⟨w.heap.size, 1, none⟩ = some (.int .i64 2) ∧ w'.cell? ⟨w.heap.size, 2, none⟩ = some (.int .i64 m) ∧ w'.cell? ⟨w.heap.size + 1, 2, none⟩ = some (.string (S wField)) ∧ Hid (Below V.heap.size V w')) := Lib.hid fun w' h =>
        ⟨(HW.out.1.bel h).c 1 _ rfl, (HW.out.1.bel h).c 2 _ rfl, (HW.out.2.bel h).c 2 _ rfl, Lib.hid h⟩
      have hsw : (S wField).size ≤ 8 := by decide
      have HM := Lib.hid hn2
      have hq1 : ¬ 9223372036854775807 < (S wField).size + 4 := by omega
      have hq2 : ¬ 9223372036854775807 < (S wField).size + 4 + (S (Lib.decDigits m)).size := by omega
      have HTX : Hid (S wField ++ ⟨#[32, 62, 61, 32]⟩ ++ S (Lib.decDigits m) = S (varN 2 ++ ([32] ++ ([62, 61] ++ ([32] ++ Lib.decDigits ((m : Int).toNat)))))) := Lib.hid (leafText wField [32, 62, 61, 32] (Lib.decDigits m) _ rfl)
      clear HW hn hn2 hv1 hv3
      go_region_held3 (fun w' => w'.cell? ⟨w.heap.size, 1, none⟩ = some (.int .i64 2) ∧ w'.cell? ⟨w.heap.size, 2, none⟩ = some (.int .i64 m) ∧ w'.cell? ⟨w.heap.size + 1, 2, none⟩ = some (.string (S wField)) ∧ Hid (Below V.heap.size V w'))
        (first
          | with_reducible exact HX.out _ (Below.refl _ _).drew
          | with_reducible exact HX.out _ (Below.refl _ _)
          | with_reducible exact HX.out _ hb1.out
          | assumption | go_keep)
        (first
          | (go_at_call 18; with_reducible refine (itoaB (held3 (W := V) (by assumption)) HG2.out m HM.out).mono ?_; rintro e w' ⟨rfl, hb1⟩))
      all_goals (
        go_wp2_with fail
        go_ret2
        rw [HTX.out]
        exact ⟨HE.out, HB2.out.trans ((held3 (W := V) (by assumption)).mono HB2.out.size)⟩)
    · go_enter Tryz.func39, Tryz.ntmps39
      go_wp2_with fail
      generalize (w.alloc (.cells #[.int .i64 1, .int .i64 3, .int .i64 m, .slice p pl cap] 49)).alloc (.cells #[.string ⟨#[]⟩, .string ⟨#[100, 105, 115, 116, 97, 110, 99, 101]⟩, .string ⟨#[102, 105, 101, 108, 100]⟩, .string ⟨#[115, 104, 111, 114, 116]⟩] 9) = V at *
      have HX : Hid (∀ w', Below V.heap.size V w' → w'.cell? ⟨w.heap.size, 1, none⟩ = some (.int .i64 3) ∧ w'.cell? ⟨w.heap.size, 2, none⟩ = some (.int .i64 m) ∧ w'.cell? ⟨w.heap.size + 1, 3, none⟩ = some (.string (S wShort)) ∧ Hid (Below V.heap.size V w')) := Lib.hid fun w' h =>
        ⟨(HW.out.1.bel h).c 1 _ rfl, (HW.out.1.bel h).c 2 _ rfl, (HW.out.2.bel h).c 3 _ rfl, Lib.hid h⟩
      have hsw : (S wShort).size ≤ 8 := by decide
      have HM := Lib.hid hn2
      have hq1 : ¬ 9223372036854775807 < (S wShort).size + 4 := by omega
      have hq2 : ¬ 9223372036854775807 < (S wShort).size + 4 + (S (Lib.decDigits m)).size := by omega
      have HTX : Hid (S wShort ++ ⟨#[32, 62, 61, 32]⟩ ++ S (Lib.decDigits m) = S (varN 3 ++ ([32] ++ ([62, 61] ++ ([32] ++ Lib.decDigits ((m : Int).toNat)))))) := Lib.hid (leafText wShort [32, 62, 61, 32] (Lib.decDigits m) _ rfl)
      clear HW hn hn2 hv1 hv3
      go_region_held3 (fun w' => w'.cell? ⟨w.heap.size, 1, none⟩ = some (.int .i64 3) ∧ w'.cell? ⟨w.heap.size, 2, none⟩ = some (.int .i64 m) ∧ w'.cell? ⟨w.heap.size + 1, 3, none⟩ = some (.string (S wShort)) ∧ Hid (Below V.heap.size V w'))
        (first
          | with_reducible exact HX.out _ (Below.refl _ _).drew
          | with_reducible exact HX.out _ (Below.refl _ _)
          | with_reducible exact HX.out _ hb1.out
          | assumption | go_keep)
        (first
          | (go_at_call 18; with_reducible refine (itoaB (held3 (W := V) (by assumption)) HG2.out m HM.out).mono ?_; rintro e w' ⟨rfl, hb1⟩))
      all_goals (
        go_wp2_with fail
        go_ret2
        rw [HTX.out]
        exact ⟨HE.out, HB2.out.trans ((held3 (W := V) (by assumption)).mono HB2.out.size)⟩)
  · have HE : Hid (CEnd (f + 1) (.mk 1 v n ps) (.returned (.tuple #[.string ⟨#[]⟩, .bool false]))) := Lib.hid (CEnd.no (by unfold condT; rw [if_pos rfl, if_neg hc]))
    generalize CEnd (f + 1) (.mk 1 v n ps) = CE at *
    generalize ps.length = pl at *
    have HB2 := Lib.hid (HB0.out.alloc HB0.out.size (.cells #[.string ⟨#[]⟩, .string ⟨#[100, 105, 115, 116, 97, 110, 99, 101]⟩, .string ⟨#[102, 105, 101, 108, 100]⟩, .string ⟨#[115, 104, 111, 114, 116]⟩] 9))
    clear hG HB0
    by_cases h1 : 1 ≤ v
    · by_cases h3 : v ≤ 3
      · by_cases h0 : 0 ≤ n
        · by_cases hm : n ≤ 1125899906842624
          · have hp : 0 < (pl : Int) := by
              have : ¬ pl = 0 := fun e => hc ⟨h1, h3, h0, hm, e⟩
              omega
            have e1 : ¬ v < 1 := by omega
            have e3 : ¬ 3 < v := by omega
            have e0 : ¬ n < 0 := by omega
            have em : ¬ 1125899906842624 < n := by omega
            clear h1 h3 h0 hm hc
            go_enter Tryz.func39, Tryz.ntmps39
            go_wp2_with fail
            go_ret2
            exact ⟨HE.out, HB2.out⟩
          · have e1 : ¬ v < 1 := by omega
            have e3 : ¬ 3 < v := by omega
            have e0 : ¬ n < 0 := by omega
            have em : 1125899906842624 < n := by omega
            clear h1 h3 h0 hm hc
            go_enter Tryz.func39, Tryz.ntmps39
            go_wp2_with fail
            go_ret2
            exact ⟨HE.out, HB2.out⟩
        · have e1 : ¬ v < 1 := by omega
          have e3 : ¬ 3 < v := by omega
          have e0 : n < 0 := by omega
          clear h1 h3 h0 hc
          go_enter Tryz.func39, Tryz.ntmps39
          go_wp2_with fail
          go_ret2
          exact ⟨HE.out, HB2.out⟩
      · have e1 : ¬ v < 1 := by omega
        have e3 : 3 < v := by omega
        clear h1 h3 hc
        go_enter Tryz.func39, Tryz.ntmps39
        go_wp2_with fail
        go_ret2
        exact ⟨HE.out, HB2.out⟩
    · have e1 : v < 1 := by omega
      clear h1 hc
      go_enter Tryz.func39, Tryz.ntmps39
      go_wp2_with fail
      go_ret2
      exact ⟨HE.out, HB2.out⟩

set_option maxHeartbeats 4000000 in
set_option maxRecDepth 100000 in
theorem condText_deep (c : Cd) (d : Nat) (hd : 8 ≤ d) (w : World) (p : Option Addr) (cap : Nat) :
    Calls Tryz.prog 39 #[cV c p cap, .int .i64 d] w fun e w' => CEnd 0 c e ∧ Below w.heap.size w w' := by
  have hdi : ¬ (d : Int) ≤ 7 := by omega
  have HB0 := Lib.hid ((Below.refl w.heap.size w).alloc (Nat.le_refl _) (.cells #[.int .i64 c.k, .int .i64 c.v, .int .i64 c.n, .slice p c.ps.length cap] 49))
  have HE : Hid (CEnd 0 c (.returned (.tuple #[.string ⟨#[]⟩, .bool false]))) := Lib.hid (CEnd.no rfl)
  unfold cV
  go_enter Tryz.func39, Tryz.ntmps39
  go_wp2_with fail
  go_ret2
  exact ⟨HE.out, HB0.out⟩

set_option maxHeartbeats 4000000 in
set_option maxRecDepth 100000 in
theorem condText_not (f d : Nat) (hf : f ≤ 8) (v n : Int) (ps : List Cd) (hd : d ≤ 7) (w : World) (hG : Gl w) (p : Option Addr) (cap : Nat) (Q : Nat → Prop) (h : CdIn w Q (.mk 4 v n ps) p cap)
    (ih : ∀ c wx px cx, Gl wx → CdIn wx Q c px cx → Calls Tryz.prog 39 #[cV c px cx, .int .i64 ((d : Int) + 1)] wx fun e w' => CEnd f c e ∧ Below wx.heap.size wx w') :
    Calls Tryz.prog 39 #[.agg #[.int .i64 4, .int .i64 v, .int .i64 n, .slice p ps.length cap], .int .i64 d] w fun e w' => CEnd (f + 1) (.mk 4 v n ps) e ∧ Below w.heap.size w w' := by
  have hdi : (d : Int) ≤ 7 := by omega
  have hb0 := (Below.refl w.heap.size w).alloc (Nat.le_refl _) (.cells #[.int .i64 4, .int .i64 v, .int .i64 n, .slice p ps.length cap] 49)
  have HB0 := Lib.hid hb0
  by_cases hc : ps.length = 1 ∧ v = 0 ∧ n = 0
  · obtain ⟨hl, rfl, rfl⟩ := hc
    obtain ⟨c, rfl⟩ := List.length_eq_one_iff.1 hl
    obtain ⟨b, off, q, dd, rfl, y0, y1, y2, y3, hce⟩ := CdIn.part0 (h.bel hb0)
    have HI := Lib.hid (ih c _ q dd (hG.bel' hb0) hce)
    have HCT : Hid (∀ s, condT f c = some s → condT (f + 1) (.mk 4 0 0 [c]) = some (wNot ++ ([32] ++ par s))) := Lib.hid fun s hs => by
      rw [condT, if_neg (by decide), if_pos rfl]; simp [hs]
    have HCN : Hid (condT f c = none → condT (f + 1) (.mk 4 0 0 [c]) = none) := Lib.hid fun hs => by
      rw [condT, if_neg (by decide), if_pos rfl]; simp [hs]
    have HLN := Lib.hid (condT_len f c)
    have hbf : bC f ≤ 45812984480 := by
      have : ∀ f, f ≤ 8 → bC f ≤ bC 8 := by decide
      exact this f hf
    clear h ih hce hG hl hb0
    unfold cV at HI
    simp only [List.length_singleton] at y0 y1 y2 y3 HI HB0 ⊢
    go_enter Tryz.func39, Tryz.ntmps39
    go_wp2_with fail
    go_at_call 39
    refine HI.out.mono ?_
    rintro e w1 ⟨he, hb⟩
    have HB1 := Lib.hid (HB0.out.trans (hb.mono HB0.out.size))
    clear hb HI HB0
    unfold CEnd at he
    cases hs : condT f c with
    | some s =>
      rw [hs] at he
      simp only at he
      subst he
      have hsz := HLN.out s hs
      have hz : (S s).size ≤ 45812984480 := by rw [S_size]; omega
      have HE : Hid (CEnd (f + 1) (.mk 4 0 0 [c]) (.returned (.tuple #[.string (S [110, 111, 116, 32, 40] ++ S s ++ S [41]), .bool true]))) := Lib.hid (by
        unfold CEnd; rw [HCT.out s hs, S_append, S_append]; rfl)
      have hq1 : ¬ 9223372036854775807 < 5 + (S s).size := by omega
      have hq2 : ¬ 9223372036854775807 < 5 + (S s).size + 1 := by omega
      clear hs hsz HCT HCN HLN
      go_wp2_with fail
      go_ret2
      exact ⟨HE.out, HB1.out⟩
    | none =>
      rw [hs] at he
      obtain ⟨s, hsz, rfl⟩ := he
      have hz : (S s).size ≤ 45812984480 := by rw [S_size]; omega
      have HE : Hid (CEnd (f + 1) (.mk 4 0 0 [c]) (.returned (.tuple #[.string (S [110, 111, 116, 32, 40] ++ S s ++ S [41]), .bool false]))) := Lib.hid (by
        unfold CEnd; rw [HCN.out hs, S_append, S_append]
        exact ⟨_, by rw [bC]; simp only [List.length_append, List.length_cons, List.length_nil]; omega, rfl⟩)
      have hq1 : ¬ 9223372036854775807 < 5 + (S s).size := by omega
      have hq2 : ¬ 9223372036854775807 < 5 + (S s).size + 1 := by omega
      clear hs hsz HCT HCN HLN
      go_wp2_with fail
      go_ret2
      exact ⟨HE.out, HB1.out⟩
  · have HE : Hid (CEnd (f + 1) (.mk 4 v n ps) (.returned (.tuple #[.string ⟨#[]⟩, .bool false]))) := Lib.hid (CEnd.no (by
      unfold condT
      rw [if_neg (by decide), if_pos rfl]
      cases ps with
      | nil => rfl
      | cons c ps =>
        cases ps with
        | cons _ _ => rfl
        | nil => simp only; rw [if_neg fun hh => hc ⟨rfl, hh⟩]))
    have hlen : ps.length ≤ 3000000000000 := by cases h; assumption
    generalize CEnd (f + 1) (.mk 4 v n ps) = CE at *
    clear h ih hG hb0
    by_cases h1 : (ps.length : Int) = 1
    · by_cases h2 : v = 0
      · have h3 : ¬ n = 0 := fun e => hc ⟨by omega, h2, e⟩
        have e1 : ((ps.length : Int) != 1) = false := by simpa using h1
        have e2 : (v != 0) = false := by simpa using h2
        have e3 : (n != 0) = true := by simpa using h3
        generalize ps.length = pl at *
        clear h1 h2 h3 hc
        go_enter Tryz.func39, Tryz.ntmps39
        go_wp2_with fail
        go_ret2
        exact ⟨HE.out, HB0.out⟩
      · have e1 : ((ps.length : Int) != 1) = false := by simpa using h1
        have e2 : (v != 0) = true := by simpa using h2
        generalize ps.length = pl at *
        clear h1 h2 hc
        go_enter Tryz.func39, Tryz.ntmps39
        go_wp2_with fail
        go_ret2
        exact ⟨HE.out, HB0.out⟩
    · have e1 : ((ps.length : Int) != 1) = true := by simpa using h1
      generalize ps.length = pl at *
      clear h1 hc
      go_enter Tryz.func39, Tryz.ntmps39
      go_wp2_with fail
      go_ret2
      exact ⟨HE.out, HB0.out⟩
end Go.Proofs.YtdhdjfkknfbmhaaGreatDoor
/- The statements' writing of conditions: joined parts. -/
namespace Go.Proofs.YtdhdjfkknfbmhaaGreatDoor
open Go.RowKit

theorem allO_len : ∀ (l : List (Option Bs)) (ss : List Bs), allO l = some ss → ss.length = l.length
  | [], ss, h => by cases h; rfl
  | none :: _, ss, h => by cases h
  | some s :: r, ss, h => by
    cases hr : allO r with
    | none => simp [allO, hr] at h
    | some q =>
      simp only [allO, hr, Option.map_some, Option.some.injEq] at h
      subst h
      simp [allO_len r q hr]
/-- What is written when j parts are written. -/
def JT (W : Bs) (f : Nat) (ps : List Cd) (j : Nat) (T : Bs) : Prop := ∃ ss, allO ((ps.take j).map (condT f)) = some ss ∧ T = joinB W ss
theorem JT.zero (W : Bs) (f : Nat) (ps : List Cd) : JT W f ps 0 [] := ⟨[], rfl, rfl⟩
theorem JT.len {W : Bs} {f : Nat} {ps : List Cd} {j : Nat} {T : Bs} (h : JT W f ps j T) (hf : f ≤ 8) (hj : j ≤ 16) (hW : W.length ≤ 3) : T.length ≤ 733007751792 := by
  obtain ⟨ss, h1, rfl⟩ := h
  have hb : ∀ f, f ≤ 8 → bC f ≤ bC 8 := by decide
  have h8 : bC f ≤ 45812984480 := hb f hf
  have := (moreB_len (bC f) W hW (condT f) (condT_len f) (ps.take j) ss h1).2
  have hl : (ps.take j).length ≤ 16 := by rw [List.length_take]; omega
  have := Nat.mul_le_mul hl (show bC f + 7 ≤ 45812984487 by omega)
  omega
theorem JT.snoc {W : Bs} {f : Nat} {ps : List Cd} {j : Nat} {T s : Bs} (h : JT W f ps j T) (hj : j < ps.length) (hs : condT f ps[j] = some s) : JT W f ps (j + 1) (if j = 0 then par s else T ++ ([32] ++ (W ++ ([32] ++ par s)))) := by
  obtain ⟨ss, h1, rfl⟩ := h
  have hl := allO_len _ _ h1
  rw [List.length_map, List.length_take] at hl
  refine ⟨ss ++ [s], ?_, ?_⟩
  · rw [List.take_succ_eq_append_getElem hj, allO_snoc _ _ _ _ h1, hs]
  · rw [joinB_snoc]
    by_cases h0 : j = 0
    · rw [if_pos h0, if_pos (List.length_eq_zero_iff.1 (by omega))]
    · rw [if_neg h0, if_neg (by rintro rfl; simp at hl; omega)]
theorem JT.first {W : Bs} {f : Nat} {ps : List Cd} {T s : Bs} (h : JT W f ps 0 T) (hj : 0 < ps.length) (hs : condT f ps[0] = some s) : JT W f ps 1 (T ++ ([40] ++ s ++ [41])) := by
  have h1 := h.snoc hj hs
  obtain ⟨ss, h2, rfl⟩ := h
  cases h2
  rw [if_pos rfl] at h1
  rw [List.append_assoc]; exact h1
theorem JT.step {W X : Bs} {f : Nat} {ps : List Cd} {j : Nat} {T s : Bs} (h : JT W f ps j T) (hX : X = [32] ++ (W ++ [32])) (h0 : 0 < j) (hj : j < ps.length) (hs : condT f ps[j] = some s) : JT W f ps (j + 1) (T ++ X ++ ([40] ++ s ++ [41])) := by
  have h1 := h.snoc hj hs
  rw [if_neg (by omega)] at h1
  subst hX
  simpa only [par, List.append_assoc] using h1
theorem JT.done {W : Bs} {f : Nat} {k : Int} {ps : List Cd} {T : Bs} (h : JT W f ps ps.length T) (hk : k = 2 ∨ k = 3) (hW : (if k = 3 then wOr else wAnd) = W) (h2 : 2 ≤ ps.length) (h16 : ps.length ≤ 16) : condT (f + 1) (.mk k 0 0 ps) = some T := by
  obtain ⟨ss, h1, rfl⟩ := h
  rw [List.take_length] at h1
  unfold condT
  rw [if_neg (by omega), if_neg (by omega), if_pos ⟨hk, h2, h16, rfl, rfl⟩, h1, hW]; rfl
theorem JT.no {f : Nat} {k : Int} {ps : List Cd} {j : Nat} (hj : j < ps.length) (hs : condT f ps[j] = none) (hk : k = 2 ∨ k = 3) (h2 : 2 ≤ ps.length) (h16 : ps.length ≤ 16) : condT (f + 1) (.mk k 0 0 ps) = none := by
  unfold condT
  rw [if_neg (by omega), if_neg (by omega), if_pos ⟨hk, h2, h16, rfl, rfl⟩, allO_none _ _ _ hj hs]; rfl
theorem JT.text {T s X : Bs} {a b c : ByteArray} (ha : a = S X) (hb : b = S [40]) (hc : c = S [41]) : S T ++ a ++ (b ++ S s ++ c) = S (T ++ X ++ ([40] ++ s ++ [41])) := by
  subst ha; subst hb; subst hc
  simp only [S_append]
theorem JT.text0 {T s : Bs} {b c : ByteArray} (hb : b = S [40]) (hc : c = S [41]) : S T ++ (b ++ S s ++ c) = S (T ++ ([40] ++ s ++ [41])) := by
  subst hb; subst hc
  simp only [S_append]

set_option maxHeartbeats 4000000 in
set_option maxRecDepth 100000 in
theorem condText_and (f d : Nat) (hf : f ≤ 8) (ps : List Cd) (hd : d ≤ 7) (h2 : 2 ≤ ps.length) (h16 : ps.length ≤ 16) (w : World) (hG : Gl w) (p : Option Addr) (cap : Nat) (Q : Nat → Prop) (h : CdIn w Q (.mk 2 0 0 ps) p cap)
    (ih : ∀ c wx px cx, Gl wx → CdIn wx Q c px cx → Calls Tryz.prog 39 #[cV c px cx, .int .i64 ((d : Int) + 1)] wx fun e w' => CEnd f c e ∧ Below wx.heap.size wx w') :
    Calls Tryz.prog 39 #[.agg #[.int .i64 2, .int .i64 0, .int .i64 0, .slice p ps.length cap], .int .i64 d] w fun e w' => CEnd (f + 1) (.mk 2 0 0 ps) e ∧ Below w.heap.size w w' := by
  have hdi : (d : Int) ≤ 7 := by omega
  have HB0 := Lib.hid ((Below.refl w.heap.size w).alloc (Nat.le_refl _) (.cells #[.int .i64 2, .int .i64 0, .int .i64 0, .slice p ps.length cap] 49))
  cases h with
  | mk _ _ _ _ _ _ b off P C hl hc hc2 hp hb hcell hsub =>
  have HX : Hid (∀ j (hj : j < ps.length) wr, Below w.heap.size w wr → p = some ⟨b, off, none⟩ ∧ wr.cell? ⟨b, off + j * 4, none⟩ = some (.int .i64 ps[j].k) ∧ wr.cell? ⟨b, off + j * 4 + 1, none⟩ = some (.int .i64 ps[j].v) ∧ wr.cell? ⟨b, off + j * 4 + 2, none⟩ = some (.int .i64 ps[j].n) ∧ wr.cell? ⟨b, off + j * 4 + 3, none⟩ = some (.slice (P j) ps[j].ps.length (C j))) := Lib.hid fun j hj wr hr => by
    have hne : ps ≠ [] := by rintro rfl; simp at hj
    obtain ⟨e1, _, l1⟩ := hb hne
    have c1 := fun o => hr.cell (p := ⟨b, o, none⟩) l1
    obtain ⟨a0, a1, a2, a3⟩ := hcell j hj
    exact ⟨e1, (c1 _).trans a0, (c1 _).trans a1, (c1 _).trans a2, (c1 _).trans a3⟩
  have HI : Hid (∀ j (hj : j < ps.length) wr, Below w.heap.size w wr → Calls Tryz.prog 39 #[cV ps[j] (P j) (C j), .int .i64 ((d : Int) + 1)] wr fun e w' => CEnd f ps[j] e ∧ Below wr.heap.size wr w') := Lib.hid fun j hj wr hr =>
    ih ps[j] wr (P j) (C j) (hG.bel' hr) ((hsub j hj).bel hr)
  have HD : Hid (∀ T, JT wAnd f ps ps.length T → CEnd (f + 1) (.mk 2 0 0 ps) (.returned (.tuple #[.string (S T), .bool true]))) := Lib.hid fun T hT => by
    unfold CEnd; rw [hT.done (by omega) rfl h2 h16]
  have HN : Hid (∀ j (hj : j < ps.length), condT f ps[j] = none → CEnd (f + 1) (.mk 2 0 0 ps) (.returned (.tuple #[.string ⟨#[]⟩, .bool false]))) := Lib.hid fun j hj hs =>
    CEnd.no (JT.no hj hs (by omega) h2 h16)
  have HST : Hid (∀ j (hj : j < ps.length) T s, JT wAnd f ps j T → condT f ps[j] = some s → (j = 0 → JT wAnd f ps (j + 1) (T ++ ([40] ++ s ++ [41]))) ∧ (0 < j → JT wAnd f ps (j + 1) (T ++ [32, 97, 110, 100, 32] ++ ([40] ++ s ++ [41])))) := Lib.hid fun j hj T s hT hs =>
    ⟨by rintro rfl; exact hT.first hj hs, fun h0 => hT.step rfl h0 hj hs⟩
  generalize CEnd (f + 1) (.mk 2 0 0 ps) = CE at *
  have hlt2 : ¬ (ps.length : Int) < 2 := by omega
  have hgt16 : ¬ 16 < (ps.length : Int) := by omega
  clear ih hcell hsub hb hG
  go_enter Tryz.func39, Tryz.ntmps39
  go_wp2_with fail
  go_loopw [10, 122] (fun t i wr => ∃ (j : Nat) (T : Bs), j ≤ ps.length ∧ i = .int .i64 j ∧ t = .string (S T) ∧ Hid (JT wAnd f ps j T) ∧ Hid (Below w.heap.size w wr)) (fun _ i _ => ps.length - (intOf i).toNat)
  case atStart => exact ⟨0, [], Nat.zero_le _, rfl, rfl, Lib.hid (JT.zero _ _ _), HB0⟩
  case round =>
    obtain ⟨j, T, hj, rfl, rfl, HJ, HB⟩ := hrel
    clear HB0
    have hTl := HJ.out.len hf (by omega) (by decide)
    have hTz : (S T).size ≤ 733007751792 := by rw [S_size]; exact hTl
    clear hTl
    by_cases hlt : j < ps.length
    · obtain ⟨rfl, a0, a1, a2, a3⟩ := HX.out j hlt _ HB.out
      have HCC : Hid (∀ wd, Below wr.heap.size wr wd → Calls Tryz.prog 39 #[cV ps[j] (P j) (C j), .int .i64 ((d : Int) + 1)] wd fun e w' => CEnd f ps[j] e ∧ Below wr.heap.size wr w') := Lib.hid fun wd hd =>
        (HI.out j hlt wd (HB.out.trans (hd.mono HB.out.size))).mono fun e w' h => ⟨h.1, hd.trans (h.2.mono hd.size)⟩
      have wj1 : (j : Int) < (ps.length : Int) := by omega
      cases hs : condT f ps[j] with
      | none =>
        have HE := Lib.hid (HN.out j hlt hs)
        have HCC : Hid (∀ wd, Below wr.heap.size wr wd → Calls Tryz.prog 39 #[cV ps[j] (P j) (C j), .int .i64 ((d : Int) + 1)] wd fun e w' => (∃ s, e = .returned (.tuple #[.string (S s), .bool false])) ∧ Below wr.heap.size wr w') := Lib.hid fun wd hd =>
          (HI.out j hlt wd (HB.out.trans (hd.mono HB.out.size))).mono fun e w' h => ⟨by
            have hh := h.1
            unfold CEnd at hh
            rw [hs] at hh
            obtain ⟨s, _, he⟩ := hh
            exact ⟨s, he⟩, hd.trans (h.2.mono hd.size)⟩
        have HA : Hid (∀ o, Below wr.heap.size wr (wr.alloc o)) := Lib.hid fun o => (Below.refl _ _).alloc (Nat.le_refl _) o
        unfold cV at HCC
        clear HI HX HST HN hs HD HJ
        generalize ps[j].k = q1 at *
        generalize ps[j].v = q2 at *
        generalize ps[j].n = q3 at *
        generalize ps[j].ps.length = q4 at *
        go_wp2_with fail
        go_at_call 39
        refine (HCC.out _ (HA.out _)).mono ?_
        rintro e w1 ⟨⟨s, rfl⟩, hb⟩
        have HB1 := Lib.hid (HB.out.trans (hb.mono HB.out.size))
        clear hb HCC
        go_wp2_with fail
        go_ret2
        exact ⟨HE.out, HB1.out⟩
      | some s =>
        have hz : (S s).size ≤ 45812984480 := by
          have hb : ∀ f, f ≤ 8 → bC f ≤ bC 8 := by decide
          have h8 : bC f ≤ 45812984480 := hb f hf
          have := condT_len f _ _ hs
          rw [S_size]; omega
        have HST1 := Lib.hid (HST.out j hlt T s HJ.out hs)
        have HCC : Hid (∀ wd, Below wr.heap.size wr wd → Calls Tryz.prog 39 #[cV ps[j] (P j) (C j), .int .i64 ((d : Int) + 1)] wd fun e w' => e = .returned (.tuple #[.string (S s), .bool true]) ∧ Below wr.heap.size wr w') := Lib.hid fun wd hd =>
          (HI.out j hlt wd (HB.out.trans (hd.mono HB.out.size))).mono fun e w' h => ⟨by
            have hh := h.1
            unfold CEnd at hh
            rw [hs] at hh
            exact hh, hd.trans (h.2.mono hd.size)⟩
        have HA : Hid (∀ o, Below wr.heap.size wr (wr.alloc o)) := Lib.hid fun o => (Below.refl _ _).alloc (Nat.le_refl _) o
        have hq1 : ¬ 9223372036854775807 < 1 + (S s).size := by omega
        have hq2 : ¬ 9223372036854775807 < 1 + (S s).size + 1 := by omega
        unfold cV at HCC
        clear HI HX HST HN hs HD HJ
        generalize ps[j].k = q1 at *
        generalize ps[j].v = q2 at *
        generalize ps[j].n = q3 at *
        generalize ps[j].ps.length = q4 at *
        by_cases h0 : j = 0
        · have hj0 : ¬ 0 < (j : Int) := by omega
          have HJ1 := Lib.hid (HST1.out.1 h0)
          have hq3 : ¬ 9223372036854775807 < (S T).size + (1 + (S s).size + 1) := by omega
          clear HST1 h0
          go_wp2_with fail
          go_at_call 39
          refine (HCC.out _ (HA.out _)).mono ?_
          rintro e w1 ⟨rfl, hb⟩
          have HB1 := Lib.hid (HB.out.trans (hb.mono HB.out.size))
          clear hb HCC
          go_wp2_with fail
          go_round
          case rel => exact ⟨j + 1, _, by omega, by go_num, congrArg Value.string (JT.text0 rfl rfl), HJ1, HB1⟩
          case measure => simp [intOf]; omega
        · have hj0 : 0 < (j : Int) := by omega
          have HJ1 := Lib.hid (HST1.out.2 (by omega))
          have hq3 : ¬ 9223372036854775807 < (S T).size + 5 := by omega
          have hq4 : ¬ 9223372036854775807 < (S T).size + 5 + (1 + (S s).size + 1) := by omega
          clear HST1 h0
          go_wp2_with fail
          go_at_call 39
          refine (HCC.out _ (HA.out _)).mono ?_
          rintro e w1 ⟨rfl, hb⟩
          have HB1 := Lib.hid (HB.out.trans (hb.mono HB.out.size))
          clear hb HCC
          go_wp2_with fail
          go_round
          case rel => exact ⟨j + 1, _, by omega, by go_num, congrArg Value.string (JT.text rfl rfl rfl), HJ1, HB1⟩
          case measure => simp [intOf]; omega
    · obtain rfl : j = ps.length := by omega
      have HE := Lib.hid (HD.out T HJ.out)
      have wj1 : ¬ (ps.length : Int) < (ps.length : Int) := by omega
      clear HI HX HST HN HD HJ
      go_wp2_with fail
      go_ret2
      exact ⟨HE.out, HB.out⟩

set_option maxHeartbeats 4000000 in
set_option maxRecDepth 100000 in
theorem condText_or (f d : Nat) (hf : f ≤ 8) (ps : List Cd) (hd : d ≤ 7) (h2 : 2 ≤ ps.length) (h16 : ps.length ≤ 16) (w : World) (hG : Gl w) (p : Option Addr) (cap : Nat) (Q : Nat → Prop) (h : CdIn w Q (.mk 3 0 0 ps) p cap)
    (ih : ∀ c wx px cx, Gl wx → CdIn wx Q c px cx → Calls Tryz.prog 39 #[cV c px cx, .int .i64 ((d : Int) + 1)] wx fun e w' => CEnd f c e ∧ Below wx.heap.size wx w') :
    Calls Tryz.prog 39 #[.agg #[.int .i64 3, .int .i64 0, .int .i64 0, .slice p ps.length cap], .int .i64 d] w fun e w' => CEnd (f + 1) (.mk 3 0 0 ps) e ∧ Below w.heap.size w w' := by
  have hdi : (d : Int) ≤ 7 := by omega
  have HB0 := Lib.hid ((Below.refl w.heap.size w).alloc (Nat.le_refl _) (.cells #[.int .i64 3, .int .i64 0, .int .i64 0, .slice p ps.length cap] 49))
  cases h with
  | mk _ _ _ _ _ _ b off P C hl hc hc2 hp hb hcell hsub =>
  have HX : Hid (∀ j (hj : j < ps.length) wr, Below w.heap.size w wr → p = some ⟨b, off, none⟩ ∧ wr.cell? ⟨b, off + j * 4, none⟩ = some (.int .i64 ps[j].k) ∧ wr.cell? ⟨b, off + j * 4 + 1, none⟩ = some (.int .i64 ps[j].v) ∧ wr.cell? ⟨b, off + j * 4 + 2, none⟩ = some (.int .i64 ps[j].n) ∧ wr.cell? ⟨b, off + j * 4 + 3, none⟩ = some (.slice (P j) ps[j].ps.length (C j))) := Lib.hid fun j hj wr hr => by
    have hne : ps ≠ [] := by rintro rfl; simp at hj
    obtain ⟨e1, _, l1⟩ := hb hne
    have c1 := fun o => hr.cell (p := ⟨b, o, none⟩) l1
    obtain ⟨a0, a1, a2, a3⟩ := hcell j hj
    exact ⟨e1, (c1 _).trans a0, (c1 _).trans a1, (c1 _).trans a2, (c1 _).trans a3⟩
  have HI : Hid (∀ j (hj : j < ps.length) wr, Below w.heap.size w wr → Calls Tryz.prog 39 #[cV ps[j] (P j) (C j), .int .i64 ((d : Int) + 1)] wr fun e w' => CEnd f ps[j] e ∧ Below wr.heap.size wr w') := Lib.hid fun j hj wr hr =>
    ih ps[j] wr (P j) (C j) (hG.bel' hr) ((hsub j hj).bel hr)
  have HD : Hid (∀ T, JT wOr f ps ps.length T → CEnd (f + 1) (.mk 3 0 0 ps) (.returned (.tuple #[.string (S T), .bool true]))) := Lib.hid fun T hT => by
    unfold CEnd; rw [hT.done (by omega) rfl h2 h16]
  have HN : Hid (∀ j (hj : j < ps.length), condT f ps[j] = none → CEnd (f + 1) (.mk 3 0 0 ps) (.returned (.tuple #[.string ⟨#[]⟩, .bool false]))) := Lib.hid fun j hj hs =>
    CEnd.no (JT.no hj hs (by omega) h2 h16)
  have HST : Hid (∀ j (hj : j < ps.length) T s, JT wOr f ps j T → condT f ps[j] = some s → (j = 0 → JT wOr f ps (j + 1) (T ++ ([40] ++ s ++ [41]))) ∧ (0 < j → JT wOr f ps (j + 1) (T ++ [32, 111, 114, 32] ++ ([40] ++ s ++ [41])))) := Lib.hid fun j hj T s hT hs =>
    ⟨by rintro rfl; exact hT.first hj hs, fun h0 => hT.step rfl h0 hj hs⟩
  generalize CEnd (f + 1) (.mk 3 0 0 ps) = CE at *
  have hlt2 : ¬ (ps.length : Int) < 2 := by omega
  have hgt16 : ¬ 16 < (ps.length : Int) := by omega
  clear ih hcell hsub hb hG
  go_enter Tryz.func39, Tryz.ntmps39
  go_wp2_with fail
  go_loopw [10, 122] (fun t i wr => ∃ (j : Nat) (T : Bs), j ≤ ps.length ∧ i = .int .i64 j ∧ t = .string (S T) ∧ Hid (JT wOr f ps j T) ∧ Hid (Below w.heap.size w wr)) (fun _ i _ => ps.length - (intOf i).toNat)
  case atStart => exact ⟨0, [], Nat.zero_le _, rfl, rfl, Lib.hid (JT.zero _ _ _), HB0⟩
  case round =>
    obtain ⟨j, T, hj, rfl, rfl, HJ, HB⟩ := hrel
    clear HB0
    have hTl := HJ.out.len hf (by omega) (by decide)
    have hTz : (S T).size ≤ 733007751792 := by rw [S_size]; exact hTl
    clear hTl
    by_cases hlt : j < ps.length
    · obtain ⟨rfl, a0, a1, a2, a3⟩ := HX.out j hlt _ HB.out
      have HCC : Hid (∀ wd, Below wr.heap.size wr wd → Calls Tryz.prog 39 #[cV ps[j] (P j) (C j), .int .i64 ((d : Int) + 1)] wd fun e w' => CEnd f ps[j] e ∧ Below wr.heap.size wr w') := Lib.hid fun wd hd =>
        (HI.out j hlt wd (HB.out.trans (hd.mono HB.out.size))).mono fun e w' h => ⟨h.1, hd.trans (h.2.mono hd.size)⟩
      have wj1 : (j : Int) < (ps.length : Int) := by omega
      cases hs : condT f ps[j] with
      | none =>
        have HE := Lib.hid (HN.out j hlt hs)
        have HCC : Hid (∀ wd, Below wr.heap.size wr wd → Calls Tryz.prog 39 #[cV ps[j] (P j) (C j), .int .i64 ((d : Int) + 1)] wd fun e w' => (∃ s, e = .returned (.tuple #[.string (S s), .bool false])) ∧ Below wr.heap.size wr w') := Lib.hid fun wd hd =>
          (HI.out j hlt wd (HB.out.trans (hd.mono HB.out.size))).mono fun e w' h => ⟨by
            have hh := h.1
            unfold CEnd at hh
            rw [hs] at hh
            obtain ⟨s, _, he⟩ := hh
            exact ⟨s, he⟩, hd.trans (h.2.mono hd.size)⟩
        have HA : Hid (∀ o, Below wr.heap.size wr (wr.alloc o)) := Lib.hid fun o => (Below.refl _ _).alloc (Nat.le_refl _) o
        unfold cV at HCC
        clear HI HX HST HN hs HD HJ
        generalize ps[j].k = q1 at *
        generalize ps[j].v = q2 at *
        generalize ps[j].n = q3 at *
        generalize ps[j].ps.length = q4 at *
        go_wp2_with fail
        go_at_call 39
        refine (HCC.out _ (HA.out _)).mono ?_
        rintro e w1 ⟨⟨s, rfl⟩, hb⟩
        have HB1 := Lib.hid (HB.out.trans (hb.mono HB.out.size))
        clear hb HCC
        go_wp2_with fail
        go_ret2
        exact ⟨HE.out, HB1.out⟩
      | some s =>
        have hz : (S s).size ≤ 45812984480 := by
          have hb : ∀ f, f ≤ 8 → bC f ≤ bC 8 := by decide
          have h8 : bC f ≤ 45812984480 := hb f hf
          have := condT_len f _ _ hs
          rw [S_size]; omega
        have HST1 := Lib.hid (HST.out j hlt T s HJ.out hs)
        have HCC : Hid (∀ wd, Below wr.heap.size wr wd → Calls Tryz.prog 39 #[cV ps[j] (P j) (C j), .int .i64 ((d : Int) + 1)] wd fun e w' => e = .returned (.tuple #[.string (S s), .bool true]) ∧ Below wr.heap.size wr w') := Lib.hid fun wd hd =>
          (HI.out j hlt wd (HB.out.trans (hd.mono HB.out.size))).mono fun e w' h => ⟨by
            have hh := h.1
            unfold CEnd at hh
            rw [hs] at hh
            exact hh, hd.trans (h.2.mono hd.size)⟩
        have HA : Hid (∀ o, Below wr.heap.size wr (wr.alloc o)) := Lib.hid fun o => (Below.refl _ _).alloc (Nat.le_refl _) o
        have hq1 : ¬ 9223372036854775807 < 1 + (S s).size := by omega
        have hq2 : ¬ 9223372036854775807 < 1 + (S s).size + 1 := by omega
        unfold cV at HCC
        clear HI HX HST HN hs HD HJ
        generalize ps[j].k = q1 at *
        generalize ps[j].v = q2 at *
        generalize ps[j].n = q3 at *
        generalize ps[j].ps.length = q4 at *
        by_cases h0 : j = 0
        · have hj0 : ¬ 0 < (j : Int) := by omega
          have HJ1 := Lib.hid (HST1.out.1 h0)
          have hq3 : ¬ 9223372036854775807 < (S T).size + (1 + (S s).size + 1) := by omega
          clear HST1 h0
          go_wp2_with fail
          go_at_call 39
          refine (HCC.out _ (HA.out _)).mono ?_
          rintro e w1 ⟨rfl, hb⟩
          have HB1 := Lib.hid (HB.out.trans (hb.mono HB.out.size))
          clear hb HCC
          go_wp2_with fail
          go_round
          case rel => exact ⟨j + 1, _, by omega, by go_num, congrArg Value.string (JT.text0 rfl rfl), HJ1, HB1⟩
          case measure => simp [intOf]; omega
        · have hj0 : 0 < (j : Int) := by omega
          have HJ1 := Lib.hid (HST1.out.2 (by omega))
          have hq3 : ¬ 9223372036854775807 < (S T).size + 4 := by omega
          have hq4 : ¬ 9223372036854775807 < (S T).size + 4 + (1 + (S s).size + 1) := by omega
          clear HST1 h0
          go_wp2_with fail
          go_at_call 39
          refine (HCC.out _ (HA.out _)).mono ?_
          rintro e w1 ⟨rfl, hb⟩
          have HB1 := Lib.hid (HB.out.trans (hb.mono HB.out.size))
          clear hb HCC
          go_wp2_with fail
          go_round
          case rel => exact ⟨j + 1, _, by omega, by go_num, congrArg Value.string (JT.text rfl rfl rfl), HJ1, HB1⟩
          case measure => simp [intOf]; omega
    · obtain rfl : j = ps.length := by omega
      have HE := Lib.hid (HD.out T HJ.out)
      have wj1 : ¬ (ps.length : Int) < (ps.length : Int) := by omega
      clear HI HX HST HN HD HJ
      go_wp2_with fail
      go_ret2
      exact ⟨HE.out, HB.out⟩
end Go.Proofs.YtdhdjfkknfbmhaaGreatDoor
/- The statements' writing of conditions, whole. -/
namespace Go.Proofs.YtdhdjfkknfbmhaaGreatDoor
open Go.RowKit

set_option maxHeartbeats 4000000 in
set_option maxRecDepth 100000 in
theorem condText_rest (f d : Nat) (k v n : Int) (ps : List Cd) (hd : d ≤ 7) (hl : ps.length ≤ 9223372036854775807) (h1 : k ≠ 1) (h4 : k ≠ 4) (hc : ¬ ((k = 2 ∨ k = 3) ∧ 2 ≤ ps.length ∧ ps.length ≤ 16 ∧ v = 0 ∧ n = 0)) (w : World) (p : Option Addr) (cap : Nat) :
    Calls Tryz.prog 39 #[.agg #[.int .i64 k, .int .i64 v, .int .i64 n, .slice p ps.length cap], .int .i64 d] w fun e w' => CEnd (f + 1) (.mk k v n ps) e ∧ Below w.heap.size w w' := by
  have hdi : (d : Int) ≤ 7 := by omega
  have HB0 := Lib.hid ((Below.refl w.heap.size w).alloc (Nat.le_refl _) (.cells #[.int .i64 k, .int .i64 v, .int .i64 n, .slice p ps.length cap] 49))
  have HE : Hid (CEnd (f + 1) (.mk k v n ps) (.returned (.tuple #[.string ⟨#[]⟩, .bool false]))) := Lib.hid (CEnd.no (by
    unfold condT
    rw [if_neg h1, if_neg h4, if_neg hc]))
  generalize CEnd (f + 1) (.mk k v n ps) = CE at *
  generalize ps.length = pl at *
  by_cases h23 : k = 2 ∨ k = 3
  · by_cases l2 : 2 ≤ pl
    · by_cases l16 : pl ≤ 16
      · by_cases hv : v = 0
        · have hn : ¬ n = 0 := fun e => hc ⟨h23, l2, l16, hv, e⟩
          have g2 : ¬ (pl : Int) < 2 := by omega
          have g16 : ¬ 16 < (pl : Int) := by omega
          have gv : (v != 0) = false := by simpa using hv
          have gn : (n != 0) = true := by simpa using hn
          clear h1 h4 hc l2 l16 hv hn
          rcases h23 with rfl | rfl
          all_goals
            go_enter Tryz.func39, Tryz.ntmps39
            go_wp2_with fail
            go_ret2
            exact ⟨HE.out, HB0.out⟩
        · have g2 : ¬ (pl : Int) < 2 := by omega
          have g16 : ¬ 16 < (pl : Int) := by omega
          have gv : (v != 0) = true := by simpa using hv
          clear h1 h4 hc l2 l16 hv
          rcases h23 with rfl | rfl
          all_goals
            go_enter Tryz.func39, Tryz.ntmps39
            go_wp2_with fail
            go_ret2
            exact ⟨HE.out, HB0.out⟩
      · have g2 : ¬ (pl : Int) < 2 := by omega
        have g16 : 16 < (pl : Int) := by omega
        clear h1 h4 hc l2 l16
        rcases h23 with rfl | rfl
        all_goals
          go_enter Tryz.func39, Tryz.ntmps39
          go_wp2_with fail
          go_ret2
          exact ⟨HE.out, HB0.out⟩
    · have g2 : (pl : Int) < 2 := by omega
      clear h1 h4 hc l2
      rcases h23 with rfl | rfl
      all_goals
        go_enter Tryz.func39, Tryz.ntmps39
        go_wp2_with fail
        go_ret2
        exact ⟨HE.out, HB0.out⟩
  · have e1 : (k == 1) = false := by simpa using h1
    have e4 : (k == 4) = false := by simpa using h4
    have e2 : (k != 2) = true := by simpa using fun e => h23 (.inl e)
    have e3 : (k != 3) = true := by simpa using fun e => h23 (.inr e)
    clear h1 h4 hc h23
    go_enter Tryz.func39, Tryz.ntmps39
    go_wp2_with fail
    go_ret2
    exact ⟨HE.out, HB0.out⟩

/-- condText writes what condT says, with f levels left. -/
theorem condText_any (Q : Nat → Prop) : ∀ (f d : Nat), f + d = 8 → ∀ (c : Cd) (w : World) (p : Option Addr) (cap : Nat), Gl w → CdIn w Q c p cap →
    Calls Tryz.prog 39 #[cV c p cap, .int .i64 d] w fun e w' => CEnd f c e ∧ Below w.heap.size w w'
  | 0, d, hfd, c, w, p, cap, _, _ => condText_deep c d (by omega) w p cap
  | f + 1, d, hfd, .mk k v n ps, w, p, cap, hG, h => by
    have ih : ∀ c wx px cx, Gl wx → CdIn wx Q c px cx → Calls Tryz.prog 39 #[cV c px cx, .int .i64 ((d : Int) + 1)] wx fun e w' => CEnd f c e ∧ Below wx.heap.size wx w' := fun c wx px cx hg hx =>
      condText_any Q f (d + 1) (by omega) c wx px cx hg hx
    have hl : ps.length ≤ 9223372036854775807 := by cases h; omega
    show Calls Tryz.prog 39 #[.agg #[.int .i64 k, .int .i64 v, .int .i64 n, .slice p ps.length cap], .int .i64 d] w _
    by_cases h1 : k = 1
    · subst h1
      exact condText_leaf f d v n ps (by omega) w hG p cap
    · by_cases h4 : k = 4
      · subst h4
        exact condText_not f d (by omega) v n ps (by omega) w hG p cap Q h ih
      · by_cases hc : (k = 2 ∨ k = 3) ∧ 2 ≤ ps.length ∧ ps.length ≤ 16 ∧ v = 0 ∧ n = 0
        · obtain ⟨h23, l2, l16, rfl, rfl⟩ := hc
          rcases h23 with rfl | rfl
          · exact condText_and f d (by omega) ps (by omega) l2 l16 w hG p cap Q h ih
          · exact condText_or f d (by omega) ps (by omega) l2 l16 w hG p cap Q h ih
        · exact condText_rest f d k v n ps (by omega) hl h1 h4 hc w p cap
end Go.Proofs.YtdhdjfkknfbmhaaGreatDoor
/- Is a condition the zero one? And how long the texts of steps are. -/
namespace Go.Proofs.YtdhdjfkknfbmhaaGreatDoor
open Go.RowKit

set_option maxHeartbeats 4000000 in
set_option maxRecDepth 100000 in
theorem sameZero_any (k v n : Int) (l : Nat) (hl : l ≤ 9223372036854775807) (p : Option Addr) (cap : Nat) (w : World) :
    Calls Tryz.prog 17 #[.agg #[.int .i64 k, .int .i64 v, .int .i64 n, .slice p l cap], .agg #[.int .i64 0, .int .i64 0, .int .i64 0, .slice none 0 0]] w fun e w' => e = .returned (.bool (decide (k = 0 ∧ v = 0 ∧ n = 0 ∧ l = 0))) ∧ Below w.heap.size w w' := by
  obtain ⟨R, hR⟩ : ∃ R, decide (k = 0 ∧ v = 0 ∧ n = 0 ∧ l = 0) = R := ⟨_, rfl⟩
  rw [hR]
  have HB : Hid (∀ o o', Below w.heap.size w ((w.alloc o).alloc o')) := Lib.hid fun o o' => ((Below.refl w.heap.size w).alloc (Nat.le_refl _) o).alloc (by simp) o'
  by_cases hk : k = 0
  · by_cases hv : v = 0
    · by_cases hn : n = 0
      · by_cases h0 : l = 0
        · subst hk; subst hv; subst hn; subst h0
          obtain rfl : true = R := by rw [← hR]; rfl
          clear hR
          go_enter Tryz.func17, Tryz.ntmps17
          go_wp2_with fail
          go_loopw [5] (fun i wr => i = .int .i64 0 ∧ wr = (w.alloc (.cells #[.int .i64 0, .int .i64 0, .int .i64 0, .slice p 0 cap] 49)).alloc (.cells #[.int .i64 0, .int .i64 0, .int .i64 0, .slice none 0 0] 49)) (fun _ _ => 0)
          case atStart => exact ⟨rfl, rfl⟩
          case round =>
            obtain ⟨rfl, rfl⟩ := hrel
            go_wp2_with fail
            go_ret
            exact ⟨rfl, HB.out _ _⟩
        · obtain rfl : false = R := by rw [← hR]; simp [h0]
          have e1 : (k != 0) = false := by simpa using hk
          have e2 : (v != 0) = false := by simpa using hv
          have e3 : (n != 0) = false := by simpa using hn
          have e4 : ((l : Int) != 0) = true := by simpa using h0
          clear hR hk hv hn h0
          go_enter Tryz.func17, Tryz.ntmps17
          go_wp2_with fail
          go_ret
          exact ⟨rfl, HB.out _ _⟩
      · obtain rfl : false = R := by rw [← hR]; simp [hn]
        have e1 : (k != 0) = false := by simpa using hk
        have e2 : (v != 0) = false := by simpa using hv
        have e3 : (n != 0) = true := by simpa using hn
        clear hR hk hv hn
        go_enter Tryz.func17, Tryz.ntmps17
        go_wp2_with fail
        go_ret
        exact ⟨rfl, HB.out _ _⟩
    · obtain rfl : false = R := by rw [← hR]; simp [hv]
      have e1 : (k != 0) = false := by simpa using hk
      have e2 : (v != 0) = true := by simpa using hv
      clear hR hk hv
      go_enter Tryz.func17, Tryz.ntmps17
      go_wp2_with fail
      go_ret
      exact ⟨rfl, HB.out _ _⟩
  · obtain rfl : false = R := by rw [← hR]; simp [hk]
    have e1 : (k != 0) = true := by simpa using hk
    clear hR hk
    go_enter Tryz.func17, Tryz.ntmps17
    go_wp2_with fail
    go_ret
    exact ⟨rfl, HB.out _ _⟩

def bT : Nat → Nat
  | 0 => 0
  | g + 1 => 12 * (bC 8 + 2 * bT g + 30)
theorem flat_len (b : Nat) (p : St → Option Bs) (ih : ∀ c s, p c = some s → s.length ≤ b) : ∀ (ss : List St) (ts : List Bs), allO (ss.map p) = some ts → ts.flatten.length ≤ ss.length * b
  | [], ts, h => by cases h; simp
  | c :: ss, ts, h => by
    rw [List.map_cons] at h
    cases hp : p c with
    | none => rw [hp] at h; cases h
    | some s =>
      rw [hp] at h
      cases hr : allO (ss.map p) with
      | none => simp [allO, hr] at h
      | some ts' =>
        simp only [allO, hr, Option.map_some, Option.some.injEq] at h
        subst h
        have h1 := flat_len b p ih ss ts' hr
        have h2 := ih c s hp
        simp only [List.flatten_cons, List.length_append, List.length_cons, Nat.add_mul, Nat.one_mul]
        omega
theorem byN_len (b : Int) : (byN b).length ≤ 7 := by rcases byN_cases b with h | h | h | h | h <;> rw [h] <;> decide
theorem stepT_len (g : Nat) (ih : ∀ ss s, stepsT g ss = some s → s.length ≤ bT g) (s : St) (t : Bs) (h : stepT (stepsT g) s = some t) : t.length ≤ bC 8 + 2 * bT g + 30 := by
  obtain ⟨k, b, c, th, el⟩ := s
  unfold stepT at h
  dsimp only at h
  by_cases h1 : k = 1
  · rw [if_pos h1] at h
    split at h
    · cases h
      have := byN_len b
      simp only [List.length_append, List.length_cons, List.length_nil]
      omega
    · cases h
  · rw [if_neg h1] at h
    split at h
    · cases hc : condT 8 c with
      | none => rw [hc] at h; cases h
      | some s =>
        cases ha : stepsT g th with
        | none => rw [hc, ha] at h; cases h
        | some a =>
          rw [hc, ha] at h
          simp only at h
          have l1 := condT_len _ _ _ hc
          have l2 := ih _ _ ha
          split at h
          · cases h
            simp only [wIf, bracesB, List.length_append, List.length_cons, List.length_nil]
            omega
          · cases he : stepsT g el with
            | none => rw [he] at h; cases h
            | some e =>
              rw [he] at h
              cases h
              have l3 := ih _ _ he
              simp only [wIf, wElse, bracesB, List.length_append, List.length_cons, List.length_nil]
              omega
    · cases h
theorem stepsT_len : ∀ (g : Nat) (ss : List St) (s : Bs), stepsT g ss = some s → s.length ≤ bT g
  | 0, ss, s, h => by cases h
  | g + 1, ss, s, h => by
    unfold stepsT at h
    split at h
    · rename_i hl
      cases ht : allO (ss.map (stepT (stepsT g))) with
      | none => rw [ht] at h; cases h
      | some ts =>
        rw [ht] at h
        cases h
        have h1 := flat_len _ _ (stepT_len g (stepsT_len g)) ss ts ht
        have h2 := Nat.mul_le_mul_right (bC 8 + 2 * bT g + 30) hl.2
        rw [bT]
        omega
    · cases h
theorem bT_le : ∀ g, g ≤ 5 → bT g ≤ 190326012604158120 := by decide
/-- What is written when j steps are written. -/
def JS (g : Nat) (ss : List St) (j : Nat) (T : Bs) : Prop := ∃ ts, allO ((ss.take j).map (stepT (stepsT g))) = some ts ∧ T = ts.flatten
theorem JS.zero (g : Nat) (ss : List St) : JS g ss 0 [] := ⟨[], rfl, rfl⟩
theorem JS.len {g : Nat} {ss : List St} {j : Nat} {T : Bs} (h : JS g ss j T) (hj : j ≤ 12) : T.length ≤ bT (g + 1) := by
  obtain ⟨ts, h1, rfl⟩ := h
  have := flat_len _ _ (stepT_len g (stepsT_len g)) _ ts h1
  have hl : (ss.take j).length ≤ 12 := by rw [List.length_take]; omega
  have := Nat.mul_le_mul_right (bC 8 + 2 * bT g + 30) hl
  rw [bT]; omega
theorem JS.step {g : Nat} {ss : List St} {j : Nat} {T s : Bs} (h : JS g ss j T) (hj : j < ss.length) (hs : stepT (stepsT g) ss[j] = some s) : JS g ss (j + 1) (T ++ s) := by
  obtain ⟨ts, h1, rfl⟩ := h
  refine ⟨ts ++ [s], ?_, by simp⟩
  rw [List.take_succ_eq_append_getElem hj, allO_snoc _ _ _ _ h1, hs]
theorem JS.done {g : Nat} {ss : List St} {T : Bs} (h : JS g ss ss.length T) (h1 : 1 ≤ ss.length) (h12 : ss.length ≤ 12) : stepsT (g + 1) ss = some T := by
  obtain ⟨ts, h2, rfl⟩ := h
  rw [List.take_length] at h2
  unfold stepsT
  rw [if_pos ⟨h1, h12⟩, h2]; rfl
theorem JS.no {g : Nat} {ss : List St} {j : Nat} (hj : j < ss.length) (hs : stepT (stepsT g) ss[j] = none) : stepsT (g + 1) ss = none := by
  unfold stepsT
  split
  · rw [allO_none _ _ _ hj hs]; rfl
  · rfl
end Go.Proofs.YtdhdjfkknfbmhaaGreatDoor
