import Derived.Test.YtdennlekjndfkaaRefA
import Derived.Test.YtdennlekjndfkaaMath2
namespace Go.Proofs.Ytdennlekjndfkaa
open Go.RowKit

theorem errL_long (l : List Sp) (h : 4096 < l.length) : errL l = 2 := by unfold errL; rw [if_pos h]
theorem errL_bad (l : List Sp) (h : ¬ 4096 < l.length) (k : Nat) (hk : k < l.length) (hb : okSp l[k] = false) : errL l = 10 := by
  unfold errL; rw [if_neg h, if_neg]
  intro ha; rw [List.all_eq_true] at ha; rw [ha _ (List.getElem_mem hk)] at hb; cases hb
theorem errL_ok (l : List Sp) (h : ¬ 4096 < l.length) (ha : l.all okSp = true) : errL l = 0 := by
  unfold errL; rw [if_neg h, if_pos ha]
theorem all_take (l : List Sp) (k : Nat) (h : k < l.length) (ha : (l.take k).all okSp = true) (hb : okSp l[k] = true) : (l.take (k + 1)).all okSp = true := by
  rw [List.take_succ_eq_append_getElem h, List.all_append, ha]; simp [hb]

set_option maxHeartbeats 400000 in
theorem valid_any (p : Option Addr) (cap : Nat) (l : List Sp) (w : World) (B : Nat) (hl : SpAt w B p l) :
    Calls Try.prog 35 #[.slice p l.length cap] w fun e w' => e = .returned (.int .i64 (errL l)) ∧ Below w.heap.size w w' := by
  have hlen := hl.len
  by_cases hlong : 4096 < l.length
  · have HE := Lib.hid (errL_long l hlong)
    go_enter Try.func35, Try.ntmps35
    go_wp2
    go_ret
    exact ⟨ret_int HE.out.symm, Below.refl _ _⟩
  have HB := Lib.hid (errL_bad l hlong)
  have HO := Lib.hid (errL_ok l hlong)
  go_enter Try.func35, Try.ntmps35
  go_wp2
  go_loopw [3] (fun i wr => ∃ k : Nat, k ≤ l.length ∧ i = .int .i64 k ∧ (l.take k).all okSp = true ∧ Below w.heap.size w wr) (fun i _ => l.length - (intOf i).toNat)
  case atStart => exact ⟨0, Nat.zero_le _, rfl, rfl, Below.refl _ _⟩
  case round =>
    obtain ⟨k, hk, rfl, hno, hbel⟩ := hrel
    have HNO := Lib.hid hno; clear hno
    have HBEL := Lib.hid hbel
    by_cases hlt : k < l.length
    · obtain ⟨b, off, rfl, _, hbs, hc⟩ := (hl.below hbel).at' (by intro h; simp [h] at hlt)
      obtain ⟨c1, c2⟩ := hc k hlt
      have HF := Lib.hid (hl.fit l[k] (List.getElem_mem hlt))
      have HT := Lib.hid (all_take l k hlt)
      have HBk := Lib.hid (HB.out k hlt)
      clear hc hbel
      generalize l[k] = s at *
      cases hs : okSp s with
      | true =>
        have HS := Lib.hid hs; clear hs
        go_wp2_with (go_at_call 20; refine (refCheck_any s HF.out _).mono ?_; rw [show errSp s = 0 by unfold errSp; rw [HS.out]; rfl]; rintro e w' ⟨rfl, hb2⟩)
        go_roundw
        case rel => exact ⟨k + 1, by omega, by go_num, HT.out HNO.out HS.out, HBEL.out.trans (hb2.mono HBEL.out.size)⟩
        case measure => simp [intOf]; omega
      | false =>
        have HS := Lib.hid hs; clear hs
        go_wp2_with (go_at_call 20; refine (refCheck_any s HF.out _).mono ?_; rw [show errSp s = 10 by unfold errSp; rw [HS.out]; rfl]; rintro e w' ⟨rfl, hb2⟩)
        go_ret
        exact ⟨ret_int (HBk.out HS.out).symm, HBEL.out.trans (hb2.mono HBEL.out.size)⟩
    · clear hbel
      go_wp2
      go_ret
      exact ⟨ret_int (HO.out (by have := HNO.out; rwa [List.take_of_length_le (by omega)] at this)).symm, HBEL.out⟩

set_option maxHeartbeats 400000 in
theorem checkList_any (p : Option Addr) (cap : Nat) (l : List Sp) (w : World) (B : Nat) (hl : SpAt w B p l) :
    Calls Try.prog 32 #[.slice p l.length cap] w fun e w' => e = .returned (.int .i64 (errL l)) ∧ Below w.heap.size w w' := by
  have hlen := hl.len
  by_cases hlong : 4096 < l.length
  · have HE := Lib.hid (errL_long l hlong)
    go_enter Try.func32, Try.ntmps32
    go_wp2
    go_ret
    exact ⟨ret_int HE.out.symm, Below.refl _ _⟩
  have HB := Lib.hid (errL_bad l hlong)
  have HO := Lib.hid (errL_ok l hlong)
  go_enter Try.func32, Try.ntmps32
  go_wp2
  go_loopw [11] (fun i wr => ∃ k : Nat, k ≤ l.length ∧ i = .int .i64 k ∧ (l.take k).all okSp = true ∧ Below w.heap.size w wr) (fun i _ => l.length - (intOf i).toNat)
  case atStart => exact ⟨0, Nat.zero_le _, rfl, rfl, Below.refl _ _⟩
  case round =>
    obtain ⟨k, hk, rfl, hno, hbel⟩ := hrel
    have HNO := Lib.hid hno; clear hno
    have HBEL := Lib.hid hbel
    by_cases hlt : k < l.length
    · obtain ⟨b, off, rfl, _, hbs, hc⟩ := (hl.below hbel).at' (by intro h; simp [h] at hlt)
      obtain ⟨c1, c2⟩ := hc k hlt
      have HF := Lib.hid (hl.fit l[k] (List.getElem_mem hlt))
      have HT := Lib.hid (all_take l k hlt)
      have HBk := Lib.hid (HB.out k hlt)
      clear hc hbel
      generalize l[k] = s at *
      cases hs : okSp s with
      | true =>
        have HS := Lib.hid hs; clear hs
        go_wp2_with (go_at_call 19; refine (check_any s HF.out _).mono ?_; rw [show errSp s = 0 by unfold errSp; rw [HS.out]; rfl]; rintro e w' ⟨rfl, hb2⟩)
        go_roundw
        case rel => exact ⟨k + 1, by omega, by go_num, HT.out HNO.out HS.out, (HBEL.out.alloc HBEL.out.size _).trans (hb2.mono (by have := HBEL.out.size; simp; omega))⟩
        case measure => simp [intOf]; omega
      | false =>
        have HS := Lib.hid hs; clear hs
        go_wp2_with (go_at_call 19; refine (check_any s HF.out _).mono ?_; rw [show errSp s = 10 by unfold errSp; rw [HS.out]; rfl]; rintro e w' ⟨rfl, hb2⟩)
        go_ret
        exact ⟨ret_int (HBk.out HS.out).symm, (HBEL.out.alloc HBEL.out.size _).trans (hb2.mono (by have := HBEL.out.size; simp; omega))⟩
    · clear hbel
      go_wp2
      go_ret
      exact ⟨ret_int (HO.out (by have := HNO.out; rwa [List.take_of_length_le (by omega)] at this)).symm, HBEL.out⟩

set_option maxHeartbeats 400000 in
theorem few_any (p q : Option Addr) (n m cap cap' : Nat) (hn : n ≤ 8796093022207) (hm : m ≤ 8796093022207) (w : World) :
    Calls Try.prog 12 #[.slice p n cap, .slice q m cap'] w fun e w' => e = .returned (.bool (decide (n ≤ 24) && decide (m ≤ 24))) ∧ w' = w := by
  by_cases h1 : n ≤ 24
  · by_cases h2 : m ≤ 24
    · rw [decide_eq_true h1, decide_eq_true h2]
      go_enter Try.func12, Try.ntmps12
      go_wp2
      go_ret
      exact ⟨ret_bool (by first | rfl | exact decide_eq_true (by omega) | exact decide_eq_false (by omega)), rfl⟩
    · rw [decide_eq_true h1, decide_eq_false h2]
      go_enter Try.func12, Try.ntmps12
      go_wp2
      go_ret
      exact ⟨ret_bool (by first | rfl | exact decide_eq_true (by omega) | exact decide_eq_false (by omega)), rfl⟩
  · rw [decide_eq_false h1]
    go_enter Try.func12, Try.ntmps12
    go_wp2
    go_ret
    exact ⟨ret_bool (by first | rfl | exact decide_eq_true (by omega) | exact decide_eq_false (by omega)), rfl⟩


set_option maxHeartbeats 400000 in
theorem both_any (p q : Option Addr) (cap cap' : Nat) (a b : List Sp) (w : World) (B B' : Nat) (ha : SpAt w B p a) (hb : SpAt w B' q b) :
    Calls Try.prog 39 #[.slice p a.length cap, .slice q b.length cap'] w fun e w' => e = .returned (.int .i64 (errLL a b)) ∧ Below w.heap.size w w' := by
  by_cases h : errL a = 0
  · have HE := Lib.hid h; clear h
    go_enter Try.func39, Try.ntmps39
    go_wp2_with fail
    refine (valid_any p cap a _ B ha).mono ?_
    rw [HE.out]
    rintro e w1 ⟨rfl, hb1⟩
    have HB := Lib.hid hb1
    have hb' := hb.below hb1
    clear hb1
    go_wp2_with fail
    refine (valid_any q cap' b _ B' hb').mono ?_
    rintro e w2 ⟨rfl, hb2⟩
    go_wp2_with fail
    go_ret
    exact ⟨ret_int (by unfold errLL; rw [if_pos HE.out]), HB.out.trans (hb2.mono HB.out.size)⟩
  · have HE := Lib.hid h
    have h2 : (errL a == 0) = false := by simpa using h
    have H3 := Lib.hid (show errL a = errLL a b by unfold errLL; rw [if_neg h])
    go_enter Try.func39, Try.ntmps39
    go_wp2_with fail
    refine (valid_any p cap a _ B ha).mono ?_
    rintro e w1 ⟨rfl, hb1⟩
    have HB := Lib.hid hb1
    clear hb1
    go_wp2_with fail
    go_ret
    exact ⟨ret_int H3.out, HB.out⟩

set_option maxHeartbeats 400000 in
theorem checkLists_any (p q : Option Addr) (cap cap' : Nat) (a b : List Sp) (w : World) (B B' : Nat) (ha : SpAt w B p a) (hb : SpAt w B' q b) :
    Calls Try.prog 37 #[.slice p a.length cap, .slice q b.length cap'] w fun e w' => e = .returned (.int .i64 (errLL a b)) ∧ Below w.heap.size w w' := by
  by_cases h : errL a = 0
  · have HE := Lib.hid h; clear h
    go_enter Try.func37, Try.ntmps37
    go_wp2_with fail
    refine (checkList_any p cap a _ B ha).mono ?_
    rw [HE.out]
    rintro e w1 ⟨rfl, hb1⟩
    have HB := Lib.hid hb1
    have hb' := hb.below hb1
    clear hb1
    go_wp2_with fail
    refine (checkList_any q cap' b _ B' hb').mono ?_
    rintro e w2 ⟨rfl, hb2⟩
    go_wp2_with fail
    go_ret
    exact ⟨ret_int (by unfold errLL; rw [if_pos HE.out]), HB.out.trans (hb2.mono HB.out.size)⟩
  · have HE := Lib.hid h
    have h2 : (errL a == 0) = false := by simpa using h
    have H3 := Lib.hid (show errL a = errLL a b by unfold errLL; rw [if_neg h])
    go_enter Try.func37, Try.ntmps37
    go_wp2_with fail
    refine (checkList_any p cap a _ B ha).mono ?_
    rintro e w1 ⟨rfl, hb1⟩
    have HB := Lib.hid hb1
    clear hb1
    go_wp2_with fail
    go_ret
    exact ⟨ret_int H3.out, HB.out⟩
end Go.Proofs.Ytdennlekjndfkaa
