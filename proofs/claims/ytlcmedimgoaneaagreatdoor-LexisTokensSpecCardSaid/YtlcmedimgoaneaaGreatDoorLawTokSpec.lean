/- LexisTokensSpec: the law returns true for all arguments. -/
import Derived.Test.YtlcmedimgoaneaaGreatDoorKLaid
import Derived.Test.YtlcmedimgoaneaaGreatDoorKSane
import Derived.Test.YtlcmedimgoaneaaGreatDoorKOpen
import Derived.Test.YtlcmedimgoaneaaGreatDoorKAlike
import Derived.Test.YtlcmedimgoaneaaGreatDoorKApp
import Derived.Test.YtlcmedimgoaneaaGreatDoorKRTn
import Derived.Test.YtlcmedimgoaneaaGreatDoorKRTr
import Derived.BigQuiet
import Derived.Laws.IdiomStrings
import Derived.Test.YtlcmedimgoaneaaGreatDoorTie
import Derived.Test.YtlcmedimgoaneaaGreatDoorCards
import Derived.Deep.DeepHandedRow
import Derived.LaidMore
import Derived.LaidLaws
import Derived.Lay
import Derived.SevenTiedAt
import Derived.OpenShut
import Derived.ShutString
import Derived.Deep.Light
namespace Go.Proofs.YtlcmedimgoaneaaGreatDoor.lexisTokensSpec
open Go.ChangeShapes Go.WideShapes Go.ChangeAt Go.RowKit Go.ChangeMaps

theorem own : ownKnob Tryz.prog.godebug = none := by kernel_rfl


theorem tokenR_any (l : Bs) (hl : l.length ≤ 100000) (p : Nat) (hp : p < l.length) (w : World) (B b off cap : Nat) (hat : BAt w B (some ⟨b, off, none⟩) l) (hc1 : l.length ≤ cap) (hc2 : cap ≤ 9223372036854775807) :
    Calls Tryz.prog 30 #[.slice (some ⟨b, off, none⟩) l.length cap, .int .i64 p] w fun e w' => e = .returned (.tuple #[tokR (tok (l.drop p)).1 (tok (l.drop p)).2.1 p, .int .i64 (tok (l.drop p)).2.2]) ∧ Below w.heap.size w w' := by
  cases h1 : isL l[p] with
  | true => exact tkWord_any l hl p hp h1 w B b off cap hat hc1 hc2
  | false =>
    by_cases h2 : isD l[p] = true ∨ (l[p] = 45 ∧ ∃ h2 : p + 1 < l.length, isD l[p + 1] = true)
    · exact tkNum_any l hl p hp h1 h2 w B b off cap hat hc1 hc2
    · refine tkRest_any l hl p ⟨hp, h1, ?_, ?_⟩ w B b off cap hat hc1 hc2
      · cases hd : isD l[p] with
        | false => rfl
        | true => exact absurd (Or.inl hd) h2
      · intro h3 h4
        cases hd : isD l[p + 1] with
        | false => rfl
        | true => exact absurd (Or.inr ⟨h3, h4, hd⟩) h2

/-- The two rows of the reference's Tokens. -/
structure RR (w wr : World) (v2 v3 : Value) (L : List Tk) (P : List Nat) : Prop where
  t : TRow wr w.heap.size v2 (L.map Tk.tok)
  p : PRow wr w.heap.size v3 P
  st : ∀ k, v2.ownBlock = some k → v3.ownBlock ≠ some k
  b : Below w.heap.size w wr
theorem RR.init (w : World) : RR w ((w.alloc (.cells #[] 38)).alloc (.cells #[] 41)) (.slice (some ⟨w.heap.size, 0, none⟩) 0 0) (.slice (some ⟨w.heap.size + 1, 0, none⟩) 0 0) [] [] := by
  have hB := (Below.refl (w.alloc (.cells #[] 38)).heap.size (w.alloc (.cells #[] 38))).alloc (Nat.le_refl _) (.cells #[] 41)
  have h1 := heap_alloc_new (w.alloc (.cells #[] 38)) (.cells #[] 41)
  rw [World.size_alloc] at h1
  refine ⟨⟨rfl, .inr ⟨w.heap.size, 0, #[], rfl, Nat.le_refl _, ?_, Nat.le_refl _, by decide, rfl, rfl⟩⟩, ⟨rfl, .inr ⟨w.heap.size + 1, 0, #[], rfl, by omega, h1, Nat.le_refl _, by decide, rfl, rfl⟩⟩, ?_, ((Below.refl _ _).alloc (Nat.le_refl _) _).alloc (by simp) _⟩
  · rw [hB.block w.heap.size (by simp)]
    exact heap_alloc_new w _
  · intro k hk h
    simp [Value.ownBlock] at hk h
    omega
theorem RR.bel {w wr w' : World} {v2 v3 : Value} {L : List Tk} {P : List Nat} (h : RR w wr v2 v3 L P) (hb : Below wr.heap.size wr w') : RR w w' v2 v3 L P :=
  ⟨own_bel h.t hb (Nat.le_refl _), own_bel h.p hb (Nat.le_refl _), h.st, h.b.trans (hb.mono h.b.size)⟩
theorem RR.pushT {w wr w' : World} {v2 v3 v : Value} {L : List Tk} {P : List Nat} (h : RR w wr v2 v3 L P) (x : Tk)
    (h1 : TRow w' w.heap.size v (L.map Tk.tok ++ [x.tok])) (hg : wr.grownBy w' v2.ownBlock) (ho : ∀ k, v.ownBlock = some k → some k = v2.ownBlock ∨ wr.heap.size ≤ k) : RR w w' v v3 (L ++ [x]) P := by
  refine ⟨by rw [List.map_append]; exact h1, own_same h.p fun k hk => hg.block k (own_rows h.p k hk).2 (fun e => h.st k e.symm hk), fun k hk h3 => ?_, h.b.grown hg h.b.size fun k hk => (own_rows h.t k hk).1⟩
  rcases ho k hk with e | e
  · exact h.st k e.symm h3
  · have := (own_rows h.p k h3).2; omega
theorem RR.pushP {w wr w' : World} {v2 v3 v : Value} {L : List Tk} {P : List Nat} (h : RR w wr v2 v3 L P) (x : Nat)
    (h1 : PRow w' w.heap.size v (P ++ [x])) (hg : wr.grownBy w' v3.ownBlock) (ho : ∀ k, v.ownBlock = some k → some k = v3.ownBlock ∨ wr.heap.size ≤ k) : RR w w' v2 v L (P ++ [x]) := by
  refine ⟨own_same h.t fun k hk => hg.block k (own_rows h.t k hk).2 (fun e => h.st k hk e.symm), h1, fun k hk h3 => ?_, h.b.grown hg h.b.size fun k hk => (own_rows h.p k hk).1⟩
  rcases ho k h3 with e | e
  · exact h.st k hk e.symm
  · have := (own_rows h.t k hk).2; omega

set_option maxHeartbeats 60000000 in
set_option maxRecDepth 100000 in
theorem tokensR_any (l : Bs) (hl : l.length ≤ 80000) (w : World) (B : Nat) (p : Option Addr) (cap : Nat) (hp : BAt w B p l) (hc1 : l.length ≤ cap) (hc2 : cap ≤ 9223372036854775807) :
    Calls Tryz.prog 13 #[.slice p l.length cap] w fun e w' => Below w.heap.size w w' ∧
      if 65536 < l.length then e = .returned (.tuple #[.slice none 0 0, .slice none 0 0, .int .i64 2])
      else ∃ v1 v2, e = .returned (.tuple #[v1, v2, .int .i64 0]) ∧ TRow w' w.heap.size v1 ((tokens l).1.map Tk.tok) ∧ PRow w' w.heap.size v2 (tokens l).2 := by
  by_cases hbig : 65536 < l.length
  · simp only [if_pos hbig]
    go_enter Tryz.func13, Tryz.ntmps13
    go_wp2_with fail
    go_ret3
    exact ⟨Below.refl _ _, rfl⟩
  · simp only [if_neg hbig]
    have HP := Lib.hid hp
    clear hp
    have HL0 := Lib.hid (Left.start l)
    have HR0 := Lib.hid (RR.init w)
    go_enter Tryz.func13, Tryz.ntmps13
    go_wp2_with fail
    go_loopw [5, 6, 7, 8] (fun v2 v3 av cv wr => ∃ (e : Int) (q : Nat) (L : List Tk) (P : List Nat), av = .int .i64 q ∧ cv = .int .i64 e ∧ -1 ≤ e ∧ e ≤ 80000 ∧ q ≤ l.length ∧ L.length ≤ q ∧ P.length ≤ 64 ∧ Hid (RR w wr v2 v3 L P) ∧ Hid (Left l (skq l q) e L P)) (fun _ _ av _ _ => l.length - (intOf av).toNat)
    case atStart => exact ⟨-1, 0, [], [], rfl, rfl, by omega, by omega, Nat.zero_le _, Nat.zero_le _, Nat.zero_le _, HR0, HL0⟩
    case round =>
      obtain ⟨e, q, L, P, rfl, rfl, he1, he2, hq, hLq, hP, HR, HL⟩ := hrel
      clear HL0 HR0
      have HBK := Lib.hid (blank_any l (by omega) q hq _ B p cap (HP.out.bel HR.out.b (Nat.le_refl _)))
      have hsq := skq_le l q hq
      go_wp2_with fail
      go_at_call 29
      refine HBK.out.mono ?_
      rintro e' w1 ⟨rfl, hb1⟩
      have HR1 := Lib.hid (HR.out.bel hb1)
      clear hb1 HBK HR
      generalize skq l q = j at *
      by_cases hlt : j < l.length
      · have hji : ((j : Int) == (l.length : Int)) = false := beq_eq_false_iff_ne.2 (by omega)
        obtain ⟨sb, so, rfl, -, -, -⟩ := HP.out.at' (by intro h; rw [h] at hlt; simp at hlt)
        have HTK := Lib.hid (tokenR_any l (by omega) j hlt w1 B sb so cap (HP.out.bel HR1.out.b (Nat.le_refl _)) hc1 hc2)
        have HST := Lib.hid (HL.out.step hlt)
        have htl := tok_le (r := l.drop j) (by intro h; have := congrArg List.length h; rw [List.length_drop, List.length_nil] at this; omega)
        rw [List.length_drop] at htl
        generalize tok (l.drop j) = tk at *
        obtain ⟨k, t, n⟩ := tk
        dsimp only at htl HST HTK
        by_cases hk : k = 0
        · subst hk
          rw [tokR_0] at HTK
          go_wp2_with fail
          go_at_call 30
          refine HTK.out.mono ?_
          rintro e' w2 ⟨rfl, hb2⟩
          have HR2 := Lib.hid (HR1.out.bel hb2)
          clear hb2 HTK HR1
          have hwsz := HR2.out.b.size
          obtain ⟨pp, pc, rfl, _, hpc1, hpc2⟩ := HR2.out.p.reads
          have HR3 : Hid (RR w (w2.alloc (.cells #[.int .i64 0, .string ⟨#[]⟩, .int .i64 0] 38)) _ _ L P) := Lib.hid (HR2.out.bel ((Below.refl _ _).alloc (Nat.le_refl _) _))
          have hn : P.length ≤ 2000000000000 := by omega
          have hB3 : w.heap.size ≤ (w2.alloc (.cells #[.int .i64 0, .string ⟨#[]⟩, .int .i64 0] 38)).heap.size := by simp; omega
          by_cases hpe : (j : Int) = e
          · have HL2 := Lib.hid (HST.out.2.2 trivial (fun h => h.1 hpe))
            have hbne : ((j : Int) != e) = false := by rw [hpe]; simp
            clear HST hpe
            go_wp2_with fail
            go_round
            case rel => exact ⟨((j + n : Nat) : Int), j + n, L, P, by go_num, by go_num, by omega, by omega, by omega, by omega, hP, HR3, HL2⟩
            case measure => simp [intOf]; omega
          · have hbne : ((j : Int) != e) = true := by simpa using hpe
            by_cases hm : P.length < 64
            · have HL2 := Lib.hid (HST.out.2.1 trivial hpe hm)
              have hmi : (P.length : Int) < 64 := by omega
              clear HST hpe
              go_wp2_with (refine wpList_pushP rfl _ _ rfl w.heap.size _ P HR3.out.p rfl j 1 (by show Value.slice (some ⟨w2.heap.size + 1, 0, none⟩) 1 1 = _; rw [World.size_alloc]) hn hB3 ?_; intro v w3 hr hg ho; have HR4 := Lib.hid (HR3.out.pushP j hr hg ho); clear hr hg ho)
              go_round
              case rel => exact ⟨((j + n : Nat) : Int), j + n, L, P ++ [j], by go_num, by go_num, by omega, by omega, by omega, by omega, by simp; omega, HR4, HL2⟩
              case measure => simp [intOf]; omega
            · have HL2 := Lib.hid (HST.out.2.2 trivial (fun h => hm h.2))
              have hmi : ¬ (P.length : Int) < 64 := by omega
              clear HST hpe
              go_wp2_with fail
              go_round
              case rel => exact ⟨((j + n : Nat) : Int), j + n, L, P, by go_num, by go_num, by omega, by omega, by omega, by omega, hP, HR3, HL2⟩
              case measure => simp [intOf]; omega
        · have HL2 := Lib.hid (HST.out.1 hk)
          have hki : (k == 0) = false := beq_eq_false_iff_ne.2 hk
          rw [tokR_k hk] at HTK
          unfold tokV at HTK
          clear HST
          go_wp2_with fail
          go_at_call 30
          refine HTK.out.mono ?_
          rintro e' w2 ⟨rfl, hb2⟩
          have HR2 := Lib.hid (HR1.out.bel hb2)
          clear hb2 HTK HR1
          have hwsz := HR2.out.b.size
          have HR3 : Hid (RR w (w2.alloc (.cells #[.int .i64 k, .string (S t), .int .i64 j] 38)) _ _ L P) := Lib.hid (HR2.out.bel ((Below.refl _ _).alloc (Nat.le_refl _) _))
          have hn : (L.map Tk.tok).length ≤ 2000000000000 := by rw [List.length_map]; omega
          have hB3 : w.heap.size ≤ (w2.alloc (.cells #[.int .i64 k, .string (S t), .int .i64 j] 38)).heap.size := by simp; omega
          go_wp2_with (refine wpList_pushT rfl _ _ rfl w.heap.size _ (L.map Tk.tok) HR3.out.t rfl (Tk.tok ⟨k, t, j⟩) 1 (by show Value.slice (some ⟨w2.heap.size + 1, 0, none⟩) 1 1 = _; rw [World.size_alloc]) hn hB3 ?_; intro v w3 hr hg ho; have HR4 := Lib.hid (HR3.out.pushT ⟨k, t, j⟩ hr hg ho); clear hr hg ho)
          go_round
          case rel => exact ⟨e, j + n, L ++ [⟨k, t, j⟩], P, by go_num, rfl, he1, he2, by omega, by simp; omega, hP, HR4, HL2⟩
          case measure => simp [intOf]; omega
      · have hj : j = l.length := by omega
        subst hj
        have hji : ((l.length : Int) == (l.length : Int)) = true := by simp
        have HLE := Lib.hid (HL.out.end_ (Nat.le_refl _))
        have hn : (L.map Tk.tok).length ≤ 2000000000000 := by rw [List.length_map]; omega
        have hB3 := HR1.out.b.size
        go_wp2_with (refine wpList_pushT rfl _ _ rfl w.heap.size _ (L.map Tk.tok) HR1.out.t rfl (Tk.tok ⟨6, [], l.length⟩) 1 rfl hn hB3 ?_; intro v w3 hr hg ho; have HR4 := Lib.hid (HR1.out.pushT ⟨6, [], l.length⟩ hr hg ho); clear hr hg ho)
        go_ret3
        rw [HLE.out]
        exact ⟨HR4.out.b, _, _, rfl, HR4.out.t, HR4.out.p⟩
set_option maxHeartbeats 16000000 in
set_option maxRecDepth 100000 in
theorem walk (w : World) (hG : Gl w) (l : Bs) (r0 : Option Addr) (c0 : Nat) (s0 : BAt w 0 r0 l) (m0 : l.length ≤ c0) (n0 : c0 ≤ 9223372036854775807) (_ : l.length ≤ 140737488351232) :
    Calls Tryz.prog 3 #[.slice r0 l.length c0] w fun e w' => e = .returned (.bool true) ∧ Below w.heap.size w w' := by
  have HG := Lib.hid hG
  have HS := Lib.hid (sane_any w hG)
  clear hG
  by_cases hA : (3000 < l.length ∧ l.length ≤ 65536) ∨ 70000 < l.length
  · clear s0
    rcases hA with ⟨h1, h2⟩ | h1
    · have h1i : (3000 : Int) < (l.length : Int) := by omega
      have h2i : (l.length : Int) ≤ 65536 := by omega
      have h2n : ¬ (65536 : Int) < (l.length : Int) := by omega
      go_enter Tryz.func3, Tryz.ntmps3
      go_wp2_with fail
      go_at_call 11
      refine HS.out.mono ?_
      rintro e w1 ⟨rfl, hb'⟩
      have HB1 := Lib.hid hb'; clear hb'
      go_wp2_with fail
      go_ret
      exact ⟨rfl, HB1.out⟩
    · have h1i : (3000 : Int) < (l.length : Int) := by omega
      have h2i : ¬ (l.length : Int) ≤ 65536 := by omega
      have h2n : (65536 : Int) < (l.length : Int) := by omega
      have h3i : (70000 : Int) < (l.length : Int) := by omega
      go_enter Tryz.func3, Tryz.ntmps3
      go_wp2_with fail
      go_at_call 11
      refine HS.out.mono ?_
      rintro e w1 ⟨rfl, hb'⟩
      have HB1 := Lib.hid hb'; clear hb'
      go_wp2_with fail
      go_ret
      exact ⟨rfl, HB1.out⟩
  · have hl7 : l.length ≤ 70000 := by omega
    have H : ∃ (K1 K2 : Nat) (TL : List Tok) (PL : List Nat) (er : Int), TL.length = K1 ∧ PL.length = K2 ∧ K2 ≤ 64 ∧
        Hid (∀ w1, Below w.heap.size w w1 → Calls Tryz.prog 12 #[.slice r0 l.length c0] w1 fun e w' => Below w1.heap.size w1 w' ∧ ∃ p1 c1 p2 c2, e = .returned (.tuple #[.slice p1 K1 c1, .slice p2 K2 c2, .int .i64 er]) ∧ TAt w' 0 p1 TL ∧ PAt w' 0 p2 PL) ∧
        Hid (∀ w1, Below w.heap.size w w1 → Calls Tryz.prog 13 #[.slice r0 l.length c0] w1 fun e w' => Below w1.heap.size w1 w' ∧ ∃ p1 c1 p2 c2, e = .returned (.tuple #[.slice p1 K1 c1, .slice p2 K2 c2, .int .i64 er]) ∧ TAt w' 0 p1 TL ∧ PAt w' 0 p2 PL) := by
      by_cases hbig : 65536 < l.length
      · refine ⟨0, 0, [], [], 2, rfl, rfl, by omega, Lib.hid fun w1 hb => ?_, Lib.hid fun w1 hb => ?_⟩
        · refine (tokens_any l (by omega) w1 (HG.out.bel' hb) 0 r0 c0 (s0.bel hb (Nat.le_refl _))).mono ?_
          rintro e w2 ⟨hb2, h⟩
          rw [if_pos hbig] at h
          exact ⟨hb2, none, 0, none, 0, h, ⟨by simp, by simp, fun h => absurd rfl h⟩, fun h => absurd rfl h⟩
        · refine (tokensR_any l (by omega) w1 0 r0 c0 (s0.bel hb (Nat.le_refl _)) m0 n0).mono ?_
          rintro e w2 ⟨hb2, h⟩
          rw [if_pos hbig] at h
          exact ⟨hb2, none, 0, none, 0, h, ⟨by simp, by simp, fun h => absurd rfl h⟩, fun h => absurd rfl h⟩
      · have hmany := (tokens_all l).many (by omega)
        have key : ∀ (w1 w2 : World) (v1 v2 : Value), TRow w2 w1.heap.size v1 ((tokens l).1.map Tk.tok) → PRow w2 w1.heap.size v2 (tokens l).2 → ∃ p1 c1 p2 c2, v1 = .slice p1 (tokens l).1.length c1 ∧ v2 = .slice p2 (tokens l).2.length c2 ∧ TAt w2 0 p1 ((tokens l).1.map Tk.tok) ∧ PAt w2 0 p2 (tokens l).2 := by
          intro w1 w2 v1 v2 h1 h2
          obtain ⟨p1, c1, e1, t1, -, -⟩ := reads_tokens (by omega) h1
          obtain ⟨p2, c2, e2, t2, -, -⟩ := h2.reads
          refine ⟨p1, c1, p2, c2, e1, e2, ⟨t1.len, t1.tl, fun h => ?_⟩, fun h => ?_⟩
          · obtain ⟨b, o, q1, q2, q3⟩ := t1.at' h
            exact ⟨b, o, q1, Nat.zero_le _, q3⟩
          · obtain ⟨b, o, q1, q2, q3⟩ := t2 h
            exact ⟨b, o, q1, Nat.zero_le _, q3⟩
        refine ⟨(tokens l).1.length, (tokens l).2.length, (tokens l).1.map Tk.tok, (tokens l).2, 0, by rw [List.length_map], rfl, by omega, Lib.hid fun w1 hb => ?_, Lib.hid fun w1 hb => ?_⟩
        · refine (tokens_any l (by omega) w1 (HG.out.bel' hb) 0 r0 c0 (s0.bel hb (Nat.le_refl _))).mono ?_
          rintro e w2 ⟨hb2, h⟩
          rw [if_neg hbig] at h
          obtain ⟨v1, v2, rfl, ht, hp⟩ := h
          obtain ⟨p1, c1, p2, c2, rfl, rfl, t1, t2⟩ := key w1 w2 v1 v2 ht hp
          exact ⟨hb2, p1, c1, p2, c2, rfl, t1, t2⟩
        · refine (tokensR_any l (by omega) w1 0 r0 c0 (s0.bel hb (Nat.le_refl _)) m0 n0).mono ?_
          rintro e w2 ⟨hb2, h⟩
          rw [if_neg hbig] at h
          obtain ⟨v1, v2, rfl, ht, hp⟩ := h
          obtain ⟨p1, c1, p2, c2, rfl, rfl, t1, t2⟩ := key w1 w2 v1 v2 ht hp
          exact ⟨hb2, p1, c1, p2, c2, rfl, t1, t2⟩
    obtain ⟨K1, K2, TL, PL, er, hk1, hk2, hk3, HT1, HT2⟩ := H
    have her : (er == er) = true := beq_self_eq_true er
    have HSM : Hid (∀ w1 p q c d, TAt w1 0 p TL → TAt w1 0 q TL → Calls Tryz.prog 14 #[.slice p K1 c, .slice q K1 d] w1 fun e w' => e = .returned (.bool true) ∧ Below w1.heap.size w1 w') := Lib.hid fun w1 p q c d h1 h2 => by
      have := same_any p q c d TL TL w1 0 0 h1 h2
      rwa [decide_eq_true rfl, hk1] at this
    have HSP : Hid (∀ w1 p q c d, PAt w1 0 p PL → PAt w1 0 q PL → Calls Tryz.prog 15 #[.slice p K2 c, .slice q K2 d] w1 fun e w' => e = .returned (.bool true) ∧ Below w1.heap.size w1 w') := Lib.hid fun w1 p q c d h1 h2 => by
      have := sameP_any p q c d PL PL (by omega) (by omega) w1 0 0 h1 h2
      rwa [decide_eq_true rfl, hk2] at this
    have h1i : (3000 : Int) < (l.length : Int) → ¬ (l.length : Int) ≤ 65536 := by omega
    have h1n : (3000 : Int) < (l.length : Int) → (65536 : Int) < (l.length : Int) := by omega
    have h7 : ¬ (70000 : Int) < (l.length : Int) := by omega
    clear s0 m0 n0 hA hl7 hk1 hk2
    generalize l.length = n at *
    have hcond : (¬ (3000 : Int) < (n : Int)) ∨ ((3000 : Int) < (n : Int) ∧ ¬ (n : Int) ≤ 65536 ∧ (65536 : Int) < (n : Int)) := by
      by_cases h : (3000 : Int) < (n : Int)
      · exact Or.inr ⟨h, h1i h, h1n h⟩
      · exact Or.inl h
    clear h1i h1n
    rcases hcond with ha | ⟨ha, hb, hc⟩
    all_goals
      go_enter Tryz.func3, Tryz.ntmps3
      go_wp2_with fail
      go_at_call 11
      refine HS.out.mono ?_
      rintro e w1 ⟨rfl, hb'⟩
      have HB1 := Lib.hid hb'; clear hb'
      go_wp2_with fail
      go_at_call 12
      refine (HT1.out _ HB1.out).mono ?_
      rintro e w2 ⟨hb', p1, c1, p2, c2, rfl, ht1, hp1⟩
      have HA1 := Lib.hid ht1
      have HP1 := Lib.hid hp1
      have HB2 := Lib.hid (HB1.out.trans (hb'.mono HB1.out.size)); clear hb' ht1 hp1
      go_wp2_with fail
      go_at_call 13
      refine (HT2.out _ HB2.out).mono ?_
      rintro e w3 ⟨hb', p3, c3, p4, c4, rfl, ht1, hp1⟩
      have HA2 := Lib.hid ht1
      have HP2 := Lib.hid hp1
      have HA1 := Lib.hid (HA1.out.bel hb' (Nat.le_refl _))
      have HP1 := Lib.hid (HP1.out.bel hb' (Nat.le_refl _))
      have HB3 := Lib.hid (HB2.out.trans (hb'.mono HB2.out.size)); clear hb' ht1 hp1
      have HC1 : Hid (Calls Tryz.prog 14 #[.slice p1 K1 c1, .slice p3 K1 c3] w3 fun e w' => e = .returned (.bool true) ∧ Below w.heap.size w w' ∧ Hid (Calls Tryz.prog 15 #[.slice p2 K2 c2, .slice p4 K2 c4] w' fun e w'' => e = .returned (.bool true) ∧ Below w.heap.size w w'')) := Lib.hid ((HSM.out w3 p1 p3 c1 c3 HA1.out HA2.out).mono (by
        rintro e w4 ⟨rfl, hb4⟩
        refine ⟨rfl, HB3.out.trans (hb4.mono HB3.out.size), Lib.hid ((HSP.out w4 p2 p4 c2 c4 (HP1.out.bel hb4 (Nat.le_refl _)) (HP2.out.bel hb4 (Nat.le_refl _))).mono ?_)⟩
        rintro e w5 ⟨rfl, hb5⟩
        exact ⟨rfl, (HB3.out.trans (hb4.mono HB3.out.size)).trans (hb5.mono (HB3.out.trans (hb4.mono HB3.out.size)).size)⟩))
      go_wp2_with (first | (go_at_call 14; refine HC1.out.mono ?_; rintro e w4 ⟨rfl, hb', HC2⟩) | (go_at_call 15; refine HC2.out.mono ?_; rintro e w5 ⟨rfl, hb''⟩; have HB5 := Lib.hid hb''; clear hb''))
      go_ret
      exact ⟨rfl, HB5.out⟩


theorem witness (os : Os) {H : Type} (enc : TypeId × Value → H) :
    ∃ (w : World) (tape : Tape) (i : Input), w.os = os ∧ (w.forCall tape i).Shaped Tryz.checked.prog ∧ i.vars = [] ∧ Input.okWide Tryz.checked.prog (w.forCall tape i) .any w.heap.size 3 i ∧
      ((Rows.lexisTokensSpecSpec.pre enc Tryz.checked.prog Tryz.f3 Rows.lexisTokensSpecRow.domain false (w.forCall tape i).memory i.args ∧ laidMetH Tryz.prog Rows.lexisTokensSpecRow.laid (w.forCall tape i).memory) ∧ sizedMet enc Tryz.checked.prog Tryz.f3 (OpenSpec.ofChange Rows.lexisTokensSpecSpec) false (w.forCall tape i).memory i.args) ∧ ({ modest := false } : Assume).holds Tryz.checked.prog (lone (Frame.enter Tryz.checked.prog 3 i.args .normal) [] (w.forCall tape i)) :=
  ChangeSpec.witness_shaped (enc := enc) (C := Tryz.checked) (os := os) (X := fun w _ => laidMetH Tryz.prog Rows.lexisTokensSpecRow.laid w) false (World.laidAll Tryz.prog os Rows.lexisTokensSpecRow.laid) #[.slice none 0 0] 8 (World.laidAll_os _ _ _)
    (World.shaped_of_ZipB (by kernel_rfl) (by kernel_rfl)) (by kernel_rfl) (by kernel_rfl) (by kernel_rfl)
    (by rw [MakeChecks.laidMetH_plain _ _ _ (by kernel_rfl)]; exact laidMet_laidAll _ (by kernel_rfl) (by kernel_rfl))

set_option maxHeartbeats 1000000 in
set_option maxRecDepth 100000 in
theorem lifted (os : Os) (started : os.Started) (H : Type) (enc : TypeId × Value → H) (F : Stop.Interp) :
    ReturnsInHanded {} Tryz.checked os 3 .any ((OpenSpec.ofChange Rows.lexisTokensSpecSpec).preRow enc Tryz.prog Tryz.f3 Rows.lexisTokensSpecRow.domain false Rows.lexisTokensSpecRow.laid)
      (((OpenSpec.ofChange Rows.lexisTokensSpecSpec).at F).post enc Tryz.prog Tryz.f3 false true false false) := by
  refine returnsInHanded_of_row (C := Tryz.checked) (s := OpenSpec.ofChange Rows.lexisTokensSpecSpec) own started (by kernel_rfl) Tryz.func3 (witness os enc) ?_
  intro W base args ds gs before hval0 hW _ _ hsz0 hL hsh _
  have hsz : (DataW.weightsEach Tryz.prog (Tryz.f3.params.toList ++ (OpenSpec.ofChange Rows.lexisTokensSpecSpec).bare.plain.varTypes Tryz.prog) (ds ++ gs)).all (· ≤ reachBytes) = true := hsz0
  clear hsz0
  have hval : ∀ (j : Nat) t v, Tryz.f3.params[j]? = some t → args[j]? = some v → Value.okWide Tryz.prog W .any base t v := hval0
  have hW' := hW
  obtain ⟨p, q, hA0, hV0, rfl, hfz, hnd⟩ := hW
  have hA : DataW.TrodAll enc Tryz.prog W 0 (fun _ => true) true Tryz.f3.params.toList args.toList ds p := hA0
  have hV : DataW.TrodVars enc Tryz.prog W (fun _ => true) [] gs q := hV0
  rw [Tryz.params3] at hA hval hsz
  obtain ⟨v0, d0, rfl, rfl, h0⟩ := trodAll_one hA
  obtain ⟨rfl, rfl⟩ := trodVars_none hV
  have h0k := h0
  have sz0 : ∀ n ∈ d0.weights Tryz.prog 22, n ≤ reachBytes := fun n hn => by
    have := List.all_eq_true.1 hsz n (DataW.weights_mem_each (j := 0) (t := 22) (d := d0) rfl rfl n hn)
    simpa using this
  obtain ⟨u0, r0, c0, rfl, s0, m0, n0, l0⟩ := open_bytes (hval 0 22 v0 rfl rfl) h0 sz0
  clear hA0 hV0 hval0
  simp only [List.append_nil] at hW'
  have lt0 : ∀ y ∈ p, y.block < W.heap.size := fun y hy => by simpa using hW'.lt y (by simp [hy])
  refine (walk W (of_laid hL hsh) u0 r0 c0 s0 m0 n0 l0).mono fun e W' ⟨he, hg⟩ => ?_
  subst he
  exact ⟨_, rfl, _, _, _, [], _, [], hW', trodAll_mk1 (shut_bool Tryz.underlying4 _), trodAll_mk1 (Below.trod laidOut (by kernel_rfl) (of_decide_eq_true (by kernel_rfl)) h0k hg lt0), rfl, hg.frame _, fun h => by cases h⟩

theorem over : Rows.LexisTokensSpecSaid :=
  OpenClaim.holds_of_cond 3 Tryz.f3 rfl rfl rfl rfl rfl rfl rfl ⟨rfl, rfl, rfl, rfl, rfl⟩ rfl rfl rfl rfl rfl (by kernel_rfl) Tryz.func3 (by kernel_rfl)
    (of_decide_eq_true (by kernel_rfl)) (by unfold Func.isWrapper; first | (rw [if_pos (by decide +kernel)]; kernel_rfl) | (rw [if_neg (by decide +kernel)]; exact ⟨rfl, rfl⟩))
    (fun os started H enc _ F0 => by rw [OpenClaim.pre_eq_preRow]; exact lifted os started H enc F0)

/-- THE STATEMENT: the tied card. -/
theorem proved : Rows.LexisTokensSpecCardSaid :=
  Claim7.holds_tied_plain_at .later [] Rows.lexisTokensSpecCard.laidKinds true Rows.lexisTokensSpecCard.stood.harness false
    over (fun _ h => by cases h) (by kernel_rfl) (fun _ h => by cases h) lexisTokensSpec_row_tie rfl ⟨rfl, rfl⟩ (by kernel_rfl) rfl
    (fun f fn hf hfn => by
      obtain rfl : f = 3 := Option.some.inj ((show Tryz.prog.funcNamed "stopwatch/stopwatchlaw05.LexisTokensSpec" = some 3 by kernel_rfl).symm.trans hf) |>.symm
      obtain rfl : fn = Tryz.f3 := (Option.some.inj (Tryz.func3.symm.trans hfn)).symm
      exact ⟨by kernel_rfl, fun j t ht => by
        rw [Tryz.params3] at ht
        have hm : t ∈ [22] := by simpa using Array.mem_of_getElem? ht
        have hall : ([22].all fun u => !Tryz.prog.wantsStandIn u) = true := by kernel_rfl
        exact (show Tryz.prog.wantsStandIn t = false by simpa using List.all_eq_true.1 hall t hm)⟩)
    (by kernel_rfl)
#print axioms proved
end Go.Proofs.YtlcmedimgoaneaaGreatDoor.lexisTokensSpec
