/- The program's Join. -/
import Derived.Test.YtlcmedimgoaneaaGreatDoorKWritten
import Derived.Test.YtlcmedimgoaneaaGreatDoorKRow
namespace Go.Proofs.YtlcmedimgoaneaaGreatDoor
open Go.RowKit

def txB (x : Tok) : Bs := (txT x.k x.t).data.toList
/-- The texts with a blank between each two. -/
def jt : List Tok → Bs
  | [] => []
  | [x] => txB x
  | x :: y :: r => txB x ++ 32 :: jt (y :: r)
theorem jt_snoc : ∀ (l : List Tok) (x : Tok), jt (l ++ [x]) = if l = [] then txB x else jt l ++ 32 :: txB x
  | [], x => rfl
  | [y], x => rfl
  | y :: z :: r, x => by
    rw [List.cons_append, List.cons_append, jt, if_neg (by simp), jt]
    have := jt_snoc (z :: r) x
    rw [if_neg (by simp), List.cons_append] at this
    rw [this, List.append_assoc]; rfl
def okI (l : List Tok) : Bool := l.all fun x => okT x.k x.t
/-- What Join returns for the tokens l and the last one z. -/
def jE (l : List Tok) (z : Tok) : Int := if z.k = 6 ∧ z.t = [] then (if okI l = true then (if 65536 < (jt l).length then 2 else 0) else 1) else 1
def jB (l : List Tok) (z : Tok) : Bs := if jE l z = 0 then jt l else []
theorem okI_take {l : List Tok} {j : Nat} (h : j < l.length) : okI (l.take (j + 1)) = (okI (l.take j) && okT l[j].k l[j].t) := by
  unfold okI
  rw [List.take_succ_eq_append_getElem h, List.all_append]; simp
theorem okI_false {l : List Tok} {j : Nat} (h : j < l.length) (hc : okT l[j].k l[j].t = false) : okI l = false := by
  cases ho : okI l with
  | false => rfl
  | true =>
    have := List.all_eq_true.1 ho l[j] (List.getElem_mem h)
    rw [hc] at this
    cases this
theorem jt_take {l : List Tok} {j : Nat} (h : j < l.length) : jt (l.take (j + 1)) = if j = 0 then txB l[j] else jt (l.take j) ++ 32 :: txB l[j] := by
  rw [List.take_succ_eq_append_getElem h, jt_snoc]
  by_cases h0 : j = 0
  · subst h0; simp
  · rw [if_neg h0, if_neg]
    intro hn
    have := congrArg List.length hn
    rw [List.length_take, List.length_nil] at this
    omega
theorem txB_len (x : Tok) : (txB x).length ≤ 2 * x.t.length + 2 := by
  unfold txB txT
  split
  · unfold quotR
    split
    · rw [S_data]; unfold quotB
      have := flat_len x.t
      rw [List.length_cons, List.length_append, List.length_singleton]; omega
    · simp [S]
  · split
    · rw [S_data]; omega
    · simp [S]
theorem jt_len : ∀ (l : List Tok) (M : Nat), (∀ x ∈ l, x.t.length ≤ M) → (jt l).length ≤ l.length * (2 * M + 3)
  | [], _, _ => by simp [jt]
  | [x], M, h => by
    have := txB_len x
    have := h x (by simp)
    simp only [jt, List.length_singleton]; omega
  | x :: y :: r, M, h => by
    have h1 := txB_len x
    have h2 := h x (by simp)
    have h3 := jt_len (y :: r) M (fun z hz => h z (by simp [hz]))
    rw [jt, List.length_append, List.length_cons, List.length_cons, Nat.add_mul]
    omega
theorem Row.sl {w : World} {lo : Nat} {v : Value} {bs : Bs} (h : Row w lo v bs) : ∃ pp pc, v = .slice pp bs.length pc := by
  rcases h.2 with ⟨hv, h0⟩ | ⟨g, cp, cur, hv, _⟩
  · exact ⟨none, 0, by rw [hv, h0]⟩
  · exact ⟨_, _, hv⟩
theorem jt_le (l : List Tok) (h : l.length ≤ 100000) (ht : ∀ x ∈ l, x.t.length ≤ 100000) : (jt l).length ≤ 20000300000 := by
  have h1 := jt_len l 100000 ht
  have h2 : l.length * (2 * 100000 + 3) ≤ 100000 * (2 * 100000 + 3) := Nat.mul_le_mul_right _ h
  exact Nat.le_trans h1 (Nat.le_trans h2 (by decide))
theorem txB_size (x : Tok) : (txT x.k x.t).size = (txB x).length := (Array.length_toList).symm
set_option maxHeartbeats 2000000 in
set_option maxRecDepth 100000 in
theorem join_any (l : List Tok) (z : Tok) (hll : l.length ≤ 100000) (ht : ∀ x ∈ l ++ [z], x.t.length ≤ 100000) (w : World) (hG : Gl w) (B : Nat) (p : Option Addr) (cap : Nat) (hcap : l.length + 1 ≤ cap) (hcm : cap ≤ 9223372036854775807) (hT : TAt w B p (l ++ [z])) :
    Calls Tryz.prog 17 #[.slice p (l.length + 1 : Nat) cap] w fun e w' => Below w.heap.size w w' ∧ ∃ v, e = .returned (.tuple #[v, .int .i64 (jE l z)]) ∧ Row w' w.heap.size v (jB l z) := by
  have HG := Lib.hid hG
  clear hG
  have HT := Lib.hid hT
  obtain ⟨b, off, rfl, hBb, hbs, hc⟩ := hT.at' (by simp)
  have hcz := hc l.length (by simp)
  simp only [List.getElem_concat_length] at hcz
  obtain ⟨z0, z1, z2⟩ := hcz
  clear hT
  by_cases hz6 : z.k = 6 ∧ z.t = []
  · have HEF : Hid (okI l = false → jE l z = 1 ∧ jB l z = []) := Lib.hid (fun h => by
      have : jE l z = 1 := by unfold jE; rw [if_pos hz6, if_neg (by rw [h]; decide)]
      exact ⟨this, by unfold jB; rw [this]; rfl⟩)
    have HEL : Hid (okI l = true → 65536 < (jt l).length → jE l z = 2 ∧ jB l z = []) := Lib.hid (fun h h2 => by
      have : jE l z = 2 := by unfold jE; rw [if_pos hz6, if_pos h, if_pos h2]
      exact ⟨this, by unfold jB; rw [this]; rfl⟩)
    have HEO : Hid (okI l = true → ¬ 65536 < (jt l).length → jE l z = 0 ∧ jB l z = jt l) := Lib.hid (fun h h2 => by
      have : jE l z = 0 := by unfold jE; rw [if_pos hz6, if_pos h, if_neg h2]
      exact ⟨this, by unfold jB; rw [this]; rfl⟩)
    generalize jE l z = je at *
    generalize jB l z = jb at *
    obtain ⟨hk, hzt⟩ := hz6
    rw [hk] at z0
    rw [hzt] at z1
    change w.cell? ⟨b, off + l.length * 3 + 1, none⟩ = some (.string ⟨#[]⟩) at z1
    have HJL := Lib.hid (jt_le l hll (fun x hx => ht x (by simp [hx])))
    clear hc z2 hk hzt
    go_enter Tryz.func17, Tryz.ntmps17
    go_wp2_with fail
    go_loopw [2, 34] (fun v i wr => ∃ j : Nat, j ≤ l.length ∧ i = .int .i64 j ∧ Hid (okI (l.take j) = true) ∧ Hid (Row wr w.heap.size v (jt (l.take j))) ∧ Hid (Below w.heap.size w wr)) (fun _ i _ => l.length - (intOf i).toNat)
    case atStart => exact ⟨0, Nat.zero_le _, rfl, Lib.hid rfl, Lib.hid (Row.nil _ _), Lib.hid (Below.refl _ _)⟩
    case round =>
      obtain ⟨j, hj, rfl, HO, HR, HB⟩ := hrel
      clear z0 z1
      by_cases hlt : j < l.length
      · obtain ⟨b', off', hpp, _, hbs', hc'⟩ := (HT.out.bel HB.out (Nat.le_refl _)).at' (by simp)
        cases hpp
        obtain ⟨y0, y1, y2⟩ := hc' j (by simp; omega)
        rw [List.getElem_append_left hlt] at y0 y1 y2
        have htl := ht (l[j]'hlt) (by simp)
        have HI := Lib.hid (okI_take hlt)
        have HIF := Lib.hid (okI_false (l := l) hlt)
        have HJ := Lib.hid (jt_take hlt)
        have htb := txB_len (l[j]'hlt)
        have HJL2 : (jt (l.take j)).length ≤ 20000300000 := jt_le _ (by rw [List.length_take]; omega) (fun x hx => ht x (by simp [List.mem_of_mem_take hx]))
        have HC := Lib.hid (fun o => written_any (l[j]'hlt).k (l[j]'hlt).t (l[j]'hlt).a htl (wr.alloc o) (HG.out.bel' (HB.out.alloc HB.out.size o)))
        have htx : (txT (l[j]'hlt).k (l[j]'hlt).t).size = (txB (l[j]'hlt)).length := txB_size _
        have HTX : Hid (txB (l[j]'hlt) = (txT (l[j]'hlt).k (l[j]'hlt).t).data.toList) := Lib.hid rfl
        clear hc'
        generalize okT (l[j]'hlt).k (l[j]'hlt).t = f at *
        generalize txT (l[j]'hlt).k (l[j]'hlt).t = tx at *
        generalize txB (l[j]'hlt) = tb at *
        generalize l[j]'hlt = x at *
        have hji : (j : Int) < (l.length : Int) := by omega
        cases f with
        | false =>
          obtain ⟨rfl, rfl⟩ := HEF.out (HIF.out rfl)
          go_wp2_with fail
          go_at_call 31
          refine (HC.out _).mono ?_
          rintro e w2 ⟨rfl, hb'⟩
          have HB2 := Lib.hid ((HB.out.alloc HB.out.size _).trans (hb'.mono ((HB.out.alloc HB.out.size _).size))); clear hb'
          go_wp2_with fail
          go_ret2
          exact ⟨HB2.out, _, rfl, Row.nil _ _⟩
        | true =>
          have HO2 : Hid (okI (l.take (j + 1)) = true) := Lib.hid (by rw [HI.out, HO.out]; rfl)
          by_cases h0 : j = 0
          · have h0i : ¬ (0 : Int) < (j : Int) := by omega
            have HJ0 : Hid (jt (l.take j) = []) := Lib.hid (by rw [h0]; rfl)
            have HJ1 : Hid (jt (l.take (j + 1)) = tb) := Lib.hid (by rw [HJ.out, if_pos h0])
            clear h0
            go_wp2_with fail
            go_at_call 31
            refine (HC.out _).mono ?_
            rintro e w2 ⟨rfl, hb'⟩
            have hs' := ((Below.refl wr.heap.size wr).alloc (Nat.le_refl _) _).trans (hb'.mono (by simp))
            have HB2 := Lib.hid (HB.out.trans (hs'.mono HB.out.size))
            have HR2 := Lib.hid (HR.out.bel hs' (Nat.le_refl _)); clear hb' hs'
            have hn : (jt (l.take j)).length + tx.size ≤ 10000000000000 := by omega
            have hlo : w.heap.size ≤ w2.heap.size := HB2.out.size
            go_wp2_with (refine wpList_appText rfl _ _ rfl w.heap.size _ _ HR2.out rfl tx rfl hn hlo ?_; intro v3 w3 hr3 hb3 hsz3)
            have HR3 : Hid (Row w3 w.heap.size v3 (jt (l.take (j + 1)))) := Lib.hid (by rw [HJ1.out, HTX.out]; rw [HJ0.out, List.nil_append] at hr3; exact hr3)
            have HB3 := Lib.hid (HB2.out.trans hb3)
            go_round
            case rel => exact ⟨j + 1, by omega, by go_num, HO2, HR3, HB3⟩
            case measure => simp [intOf]; omega
          · have h0i : (0 : Int) < (j : Int) := by omega
            go_wp2_with fail
            go_at_call 31
            refine (HC.out _).mono ?_
            rintro e w2 ⟨rfl, hb'⟩
            have hs' := ((Below.refl wr.heap.size wr).alloc (Nat.le_refl _) _).trans (hb'.mono (by simp))
            have HB2 := Lib.hid (HB.out.trans (hs'.mono HB.out.size))
            have HR2 := Lib.hid (HR.out.bel hs' (Nat.le_refl _)); clear hb' hs'
            have HRA : Hid (∀ o, Row (w2.alloc o) w.heap.size _ (jt (l.take j))) := Lib.hid fun o => HR2.out.bel ((Below.refl w2.heap.size w2).alloc (Nat.le_refl _) o) (Nat.le_refl _)
            have H1 := Lib.hid (Row.one w2 32)
            have hn : (jt (l.take j)).length + [(32 : UInt8)].length ≤ 10000000000000 := by rw [List.length_singleton]; omega
            have hlo : w.heap.size ≤ (w2.alloc (.cells #[.int .u8 (32 : UInt8).toNat] 5)).heap.size := by have := HB2.out.size; simp; omega
            have hn2 : (jt (l.take j) ++ [32]).length + tx.size ≤ 10000000000000 := by rw [List.length_append, List.length_singleton]; omega
            go_wp2_with (first | (refine wpList_appRow rfl _ _ rfl w.heap.size _ _ (HRA.out _) rfl _ _ _ H1.out rfl Nat.zero_lt_one hn hlo ?_; intro v3 w3 hr3 hb3 hsz3; have HR3 := Lib.hid hr3; have HB3 := Lib.hid ((HB2.out.alloc HB2.out.size _).trans hb3); have hlo3 := HB3.out.size) | (refine wpList_appText rfl _ _ rfl w.heap.size _ _ HR3.out rfl tx rfl hn2 hlo3 ?_; intro v4 w4 hr4 hb4 hsz4))
            have HR4 : Hid (Row w4 w.heap.size v4 (jt (l.take (j + 1)))) := Lib.hid (by rw [HJ.out, if_neg h0, HTX.out]; rw [List.append_assoc] at hr4; exact hr4)
            have HB4 := Lib.hid (HB3.out.trans hb4)
            go_round
            case rel => exact ⟨j + 1, by omega, by go_num, HO2, HR4, HB4⟩
            case measure => simp [intOf]; omega
      · have hji : ¬ (j : Int) < (l.length : Int) := by omega
        have HOL : Hid (okI l = true) := Lib.hid (by have := HO.out; rwa [List.take_of_length_le (by omega)] at this)
        have HRL : Hid (Row wr w.heap.size _ (jt l)) := Lib.hid (by have := HR.out; rwa [List.take_of_length_le (by omega)] at this)
        obtain ⟨pp, pc, rfl⟩ := HRL.out.sl
        have hjl : (jt l).length ≤ 20000300000 := HJL.out
        by_cases hbig : 65536 < (jt l).length
        · obtain ⟨rfl, rfl⟩ := HEL.out HOL.out hbig
          have hbi : (65536 : Int) < ((jt l).length : Int) := by omega
          go_wp2_with fail
          go_ret2
          exact ⟨HB.out, _, rfl, Row.nil _ _⟩
        · obtain ⟨rfl, rfl⟩ := HEO.out HOL.out hbig
          have hbi : ¬ (65536 : Int) < ((jt l).length : Int) := by omega
          go_wp2_with fail
          go_ret2
          exact ⟨HB.out, _, rfl, HRL.out⟩
  · have HE : Hid (jE l z = 1 ∧ jB l z = []) := Lib.hid (by
      have : jE l z = 1 := by unfold jE; rw [if_neg hz6]
      exact ⟨this, by unfold jB; rw [this]; rfl⟩)
    generalize jE l z = je at *
    generalize jB l z = jb at *
    obtain ⟨rfl, rfl⟩ := HE.out
    by_cases hk : z.k = 6
    · have hzt := S_ne z.t (List.length_pos_iff.2 (fun h => hz6 ⟨hk, h⟩))
      rw [hk] at z0
      clear hz6
      go_enter Tryz.func17, Tryz.ntmps17
      go_wp2_with fail
      go_ret2
      exact ⟨Below.refl _ _, _, rfl, Row.nil _ _⟩
    · have hkb : (z.k == 6) = false := beq_eq_false_iff_ne.2 hk
      have hkn : (z.k != 6) = true := by rw [bne, hkb]; rfl
      clear hz6
      go_enter Tryz.func17, Tryz.ntmps17
      go_wp2_with fail
      go_ret2
      exact ⟨Below.refl _ _, _, rfl, Row.nil _ _⟩
end Go.Proofs.YtlcmedimgoaneaaGreatDoor
