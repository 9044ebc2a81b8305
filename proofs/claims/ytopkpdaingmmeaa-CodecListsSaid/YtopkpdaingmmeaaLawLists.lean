/- CodecLists: the law returns true for all arguments, without any condition. -/
import Derived.Test.YtopkpdaingmmeaaVLists
import Derived.Deep.Light
namespace Go.Proofs.Ytopkpdaingmmeaa.codecLists
open Go.ChangeShapes Go.WideShapes Go.ChangeAt Go.RowKit Go.Deep

set_option maxRecDepth 100000 in
set_option maxHeartbeats 8000000 in
theorem walk (w : World) (l : List V) (r0 : Option Addr) (c0 : Nat) (s0 : LAt w 0 l r0 c0) :
    Calls Try.prog 8 #[.slice r0 l.length c0] w fun e w' => e = .returned (.bool true) ∧ Below w.heap.size w w' := by
  have HL := Lib.hid s0
  have hlen : l.length ≤ 2600000000000 := s0.len
  have hFIT : ∀ x ∈ l, Fits x := (FitsL_all l).1 (by have := VAt.fits s0; rw [Fits] at this; exact this.2.2.2)
  have HFEW := Lib.hid fun wr (hb : Below w.heap.size w wr) => few_any l wr 0 r0 c0 (VAt.bel s0 hb)
  clear s0
  by_cases hfew : (l.all fun v => decide (cnt 21 v ≤ 200)) = true
  · rw [hfew] at HFEW
    by_cases h20 : l.length ≤ 20
    · have i20 : ¬ (20 : Int) < (l.length : Int) := by omega
      have hsm : ∀ x ∈ l, rank x ≤ 21 ∧ (enc x).length ≤ 42200 := fun x hx => by
        have := List.all_eq_true.1 hfew x hx
        obtain ⟨h1, h2, _⟩ := cnt_small 21 x (hFIT x hx) (by simpa using this)
        have h3 : cnt 21 x ≤ 200 := by simpa using this
        exact ⟨h1, by omega⟩
      have hrk : rank (LV l) ≤ 22 := rank_LV fun x hx => (hsm x hx).1
      have hel := encL_leN fun x hx => (hsm x hx).2
      have HSM := Lib.hid hsm
      have hnp := num_pos l.length
      have hnl := num_le l.length (by omega)
      have hLE : (enc (LV l)).length = 1 + (num l.length).length + (encL l).length := by rw [enc_LV, List.length_cons, List.length_append]; omega
      have HENC : Hid (∀ wr, Below w.heap.size w wr → Calls Try.prog 12 #[.agg #[.int .i64 3, .int .i64 0, .string ⟨#[]⟩, .slice r0 l.length c0]] wr fun e w' => Below wr.heap.size wr w' ∧ ∃ q m c, e = .returned (.tuple #[.slice q m c, .int .i64 (errV (LV l))]) ∧ BAt w' wr.heap.size q (if errV (LV l) = 0 then enc (LV l) else []) ∧ m = (if errV (LV l) = 0 then enc (LV l) else []).length ∧ (q = none → c = 0) ∧ m ≤ c ∧ c ≤ 9223372036854775807) := Lib.hid fun wr hb =>
        encode_any (LV l) (by omega) (fun _ => by omega) wr 0 r0 c0 (LAt.value (VAt.bel HL.out hb) (by unfold Fit64; omega) (by unfold Fit64; omega) (by decide))
      have HLE := Lib.hid hLE
      have HNL := Lib.hid hnl
      clear hsm hrk hLE hfew hFIT hnl
      go_enter Try.func8, Try.ntmps8
      go_wp2_with fail
      go_at_call 10
      refine (sane_any _).mono ?_
      rintro e w1 ⟨rfl, hb⟩
      have HB1 := Lib.hid hb; clear hb
      go_wp2_with fail
      go_at_call 11
      refine (HFEW.out w1 HB1.out).mono ?_
      rintro e w2 ⟨rfl, hb⟩
      have HB2 := Lib.hid (HB1.out.trans (hb.mono HB1.out.size)); clear hb HB1 HFEW
      go_wp2_with fail
      go_loopw [3, 4, 5, 31] (fun a z s i wr => ∃ (j q : Nat), j ≤ l.length ∧ i = .int .i64 j ∧ s = .int .i64 q ∧ q ≤ 42200 * j ∧ Hid (q = (encL (l.take j)).length) ∧ Hid (Row wr w2.heap.size a (encL (l.take j))) ∧ Hid (Zs wr w2.heap.size z j) ∧ Hid (a.ownBlock = none ∨ a.ownBlock ≠ z.ownBlock) ∧ Hid (∀ x ∈ l.take j, errV x = 0) ∧ Hid (Below w2.heap.size w2 wr)) (fun _ _ _ i _ => l.length - (intOf i).toNat)
      case atStart => exact ⟨0, 0, Nat.zero_le _, rfl, rfl, by omega, Lib.hid (by simp [encL]), Lib.hid (World.ownsRow_nil _ _ _ _), Lib.hid (Zs.nil _ _), Lib.hid (.inl rfl), Lib.hid (by simp), Lib.hid (Below.refl _ _)⟩
      case round =>
        obtain ⟨j, q, hj, rfl, rfl, hq, HQ, HROW, HZ, HNE, HGOOD, HB⟩ := hrel
        by_cases hlt : j < l.length
        · obtain ⟨b, off, q1, c, rfl, hbs, e0, e1, e2, e3, hx⟩ := HL.out.elem (HB2.out.trans (HB.out.mono HB2.out.size)) j hlt
          have hmem : l[j] ∈ l := List.getElem_mem hlt
          obtain ⟨hrk, hel2⟩ := HSM.out _ hmem
          have hbx := fun o => (Below.refl wr.heap.size wr).alloc (Nat.le_refl _) o
          have HE1 : Hid (∀ o, Calls Try.prog 12 #[vV l[j] q1 c] (wr.alloc o) fun e w' => Below (wr.alloc o).heap.size (wr.alloc o) w' ∧ ∃ q m c, e = .returned (.tuple #[.slice q m c, .int .i64 (errV l[j])]) ∧ BAt w' (wr.alloc o).heap.size q (if errV l[j] = 0 then enc l[j] else []) ∧ m = (if errV l[j] = 0 then enc l[j] else []).length ∧ (q = none → c = 0) ∧ m ≤ c ∧ c ≤ 9223372036854775807) := Lib.hid fun o =>
            encode_any l[j] (by omega) (fun _ => by omega) _ 0 q1 c (hx.bel (hbx o))
          have HS1 : Hid (∀ wx, Below wr.heap.size wr wx → Calls Try.prog 14 #[vV l[j] q1 c] wx fun e w' => e = .returned (.tuple #[.int .i64 (if errV l[j] = 0 then (enc l[j]).length else 0), .int .i64 (errV l[j])]) ∧ Below wx.heap.size wx w') := Lib.hid fun wx hb =>
            size_any l[j] (by omega) (fun _ => by omega) wx 0 q1 c (hx.bel hb)
          have HBAD := Lib.hid fun (h : errV l[j] ≠ 0) => errLV_bad hmem h
          have HT : Hid (encL (l.take (j + 1)) = encL (l.take j) ++ enc l[j]) := Lib.hid (encL_take l j hlt)
          have HG2 : Hid (errV l[j] = 0 → ∀ x ∈ l.take (j + 1), errV x = 0) := Lib.hid fun h x hx => by
            rw [List.take_succ_eq_append_getElem hlt] at hx
            rcases List.mem_append.1 hx with hx | hx
            · exact HGOOD.out x hx
            · rw [List.mem_singleton.1 hx]; exact h
          have hpos := enc_pos l[j]
          unfold vV at HE1 HS1
          clear hx hmem
          generalize l[j] = x at *
          have HBX : Hid (Box (wr.alloc (.cells #[.int .i64 x.k, .int .i64 x.n, .string x.s, .slice q1 x.l.length c] 24)) wr.heap.size x.k x.n x.s (.slice q1 x.l.length c)) := Lib.hid (Box.new wr x.k x.n x.s _)
          generalize x.l.length = n1 at *
          generalize x.k = x1 at *
          generalize x.n = x2 at *
          generalize x.s = x3 at *
          go_wp2_with fail
          go_at_call 12
          refine (HE1.out _).mono ?_
          rintro e w3 ⟨hb, q3, m3, cc3, rfl, hq3, hm3, _, hmc3, hcc3⟩
          have HB3 := Lib.hid ((hbx _).trans (hb.mono (hbx _).size))
          have HBX3 := Lib.hid (HBX.out.bel hb HBX.out.lt)
          obtain ⟨_, d0, d1, d2, d3⟩ := HBX3.out
          have HQ3 := Lib.hid (And.intro hq3 hm3)
          clear hb hq3 hm3 HE1 HBX
          go_wp2_with fail
          go_at_call 14
          refine (HS1.out w3 HB3.out).mono ?_
          rintro e w4 ⟨rfl, hb⟩
          have HB4 := Lib.hid (HB3.out.trans (hb.mono HB3.out.size))
          have HQ4 := Lib.hid (HQ3.out.1.below hb)
          have hm3 := HQ3.out.2
          clear hb HB3 HQ3 HS1 HBX3 d0 d1 d2 d3
          have HBA := Lib.hid (HB.out.trans (HB4.out.mono HB.out.size))
          by_cases her : errV x = 0
          · rw [if_pos her] at HQ4 hm3 ⊢
            have HG3 := Lib.hid (HG2.out her)
            rw [her]
            subst hm3
            clear her HG2 HBAD
            have HROW4 := Lib.hid (HROW.out.bel HB4.out (Nat.le_refl _))
            have HZ4 := Lib.hid (HZ.out.bel HB4.out (Nat.le_refl _))
            clear HROW HZ HGOOD HSM HENC HNL HLE
            generalize encL (l.take j) = pre at *
            generalize enc x = en at *
            have hn1 : pre.length + en.length ≤ 10000000000000 := by rw [← HQ.out]; omega
            have hbase : w2.heap.size ≤ w4.heap.size := HBA.out.size
            go_wp2_with (refine wpList_appB rfl _ _ rfl w2.heap.size u3 pre HROW4.out rfl _ q3 en HQ4.out _ _ rfl rfl hpos (by assumption) (by assumption) ?_; intro g1 cap1 w5 hrow5 hg5 hat5)
            go_at_call 23
            refine (int_any 0 w5).mono ?_
            rintro e w6 ⟨rfl, hb6⟩
            have HROW6 := Lib.hid (hrow5.bel hb6 (Nat.le_refl _))
            have hz5 : Zs w5 w2.heap.size u4 j := ownsRow_grown HZ4.out hg5 (ne_turn HNE.out)
            have HZ6 := Lib.hid (hz5.bel hb6 (Nat.le_refl _))
            have HB6 := Lib.hid ((HBA.out.grown hg5 hbase fun k hk => (HROW4.out.rows k hk).1).trans (hb6.mono (Nat.le_trans hbase hg5.size)))
            have hbase6 : w2.heap.size ≤ w6.heap.size := HB6.out.size
            have hrl : (List.replicate j zeroE).length ≤ 2000000000000 := by rw [List.length_replicate]; omega
            clear hg5 hat5 hb6 hrow5 hz5 HROW4 HZ4
            unfold vV
            go_wp2_with (refine wpList_pushV rfl _ _ rfl w2.heap.size u4 (List.replicate j zeroE) HZ6.out.ownE rfl (.mk 1 0 ⟨#[]⟩ []) none 0 _ rfl (VIn.leaf (by unfold Fit64; omega) (by unfold Fit64; omega) (by decide)) (by assumption) (by assumption) ?_; intro g2 cap2 w7 hown7 hg7)
            go_roundw
            case rel =>
              have hz7 : Zs w7 w2.heap.size (.slice (some ⟨g2, 0, none⟩) ((List.replicate j zeroE).length + 1) cap2) (j + 1) := Zs.step hown7
              have hr7 : Row w7 w2.heap.size (.slice (some ⟨g1, 0, none⟩) (pre ++ en).length cap1) (pre ++ en) := ownsRow_grown HROW6.out hg7 (rows_ne HROW6.out HZ6.out)
              rw [List.length_replicate] at hz7
              rw [List.length_append] at hr7
              exact ⟨j + 1, q + en.length, by omega, by go_num, by go_num, by omega, Lib.hid (by rw [HT.out, List.length_append, HQ.out]), Lib.hid (by rw [HT.out]; exact hr7), Lib.hid hz7, Lib.hid (rows_ne hr7 hz7), HG3, Lib.hid (HB6.out.grown hg7 hbase6 fun k hk => (HZ6.out.ownE.lt k hk).1)⟩
            case measure => simp [intOf]; omega
          · rw [if_neg her] at HQ4 hm3 ⊢
            have her2 := HBAD.out her
            generalize errV x = er at *
            have ht1 : (er != 0) = true := by simpa using her
            have ht2 : (er == 0) = false := by simpa using her
            clear HG2 HBAD HT
            subst hm3
            go_wp2_with fail
            go_at_call 22
            refine (list_any _ _ _ w4).mono ?_
            rintro e w5 ⟨rfl, hb⟩
            have HB5 := Lib.hid (HB2.out.trans ((HBA.out.trans (hb.mono HBA.out.size)).mono HB2.out.size))
            clear hb
            go_wp2_with fail
            go_at_call 12
            refine (HENC.out w5 HB5.out).mono ?_
            rintro e w6 ⟨hb, q6, m6, cc6, rfl, _⟩
            have HB6 := Lib.hid (HB5.out.trans (hb.mono HB5.out.size))
            clear hb
            generalize errV (LV l) = er2 at *
            have ht3 : (er2 != 0) = true := by simpa using her2
            go_wp2_with fail
            go_ret
            exact ⟨rfl, HB6.out⟩
        · obtain rfl : j = l.length := by omega
          have htk : l.take l.length = l := List.take_of_length_le (Nat.le_refl _)
          rw [htk] at HQ HROW HGOOD
          have HBA := Lib.hid (HB2.out.trans (HB.out.mono HB2.out.size))
          obtain ⟨pz, cz, rfl, hvz⟩ := HZ.out.list h20
          obtain ⟨pa, ma, ca, rfl, hba, hma⟩ := Row.reads' HROW.out (by rw [← HQ.out]; omega)
          rw [← HQ.out] at hma
          subst hma
          have HVZ := Lib.hid hvz
          have HPA := Lib.hid hba
          have hgl := errLV_good HGOOD.out
          have HGZ := Lib.hid (good_zeros l.length h20)
          have hzl : (enc (LV (List.replicate l.length zeroV))).length = 1 + (num l.length).length + 2 * l.length := by rw [enc_LV, List.length_cons, List.length_append, List.length_replicate, encL_zeros]; omega
          have HSZ : Hid (∀ wx, Below wr.heap.size wr wx → Calls Try.prog 14 #[.agg #[.int .i64 3, .int .i64 0, .string ⟨#[]⟩, .slice pz l.length cz]] wx fun e w' => e = .returned (.tuple #[.int .i64 (1 + (num l.length).length + 2 * l.length : Nat), .int .i64 0]) ∧ Below wx.heap.size wx w') := Lib.hid fun wx hb => by
            have := sizeG_any HGZ.out (by have := good_rank HGZ.out; omega) (by rw [hzl]; have := HNL.out; omega) wx 0 pz cz (HVZ.out.bel hb)
            rw [hzl] at this
            unfold LV vV at this
            rw [show (V.mk 3 0 ⟨#[]⟩ (List.replicate l.length zeroV)).l.length = l.length from List.length_replicate] at this
            exact this
          clear hvz hba hzl HVZ HGOOD HSM htk HROW HZ HNE HL
          have hLE2 : enc (LV l) = 3 :: (num l.length ++ encL l) := enc_LV l
          have HEQ := Lib.hid hLE2
          have HLEN := HLE.out
          rw [← HQ.out] at HLEN
          have hnl := HNL.out
          generalize hnle : (num l.length).length = nl at *
          have HNL := Lib.hid (And.intro hnl hnle)
          clear hnle
          clear hLE2
          go_wp2_with fail
          go_at_call 22
          refine (list_any _ _ _ wr).mono ?_
          rintro e w5 ⟨rfl, hb⟩
          have HB5 := Lib.hid (HBA.out.trans (hb.mono HBA.out.size))
          have HR5 := Lib.hid hb
          clear hb
          go_wp2_with fail
          go_at_call 12
          refine (HENC.out w5 HB5.out).mono ?_
          rintro e w6 ⟨hb, q6, m6, cc6, rfl, hq6, hm6, _, hmc6, hcc6⟩
          have HB6 := Lib.hid (HB5.out.trans (hb.mono HB5.out.size))
          have HR6 := Lib.hid (HR5.out.trans (hb.mono HR5.out.size))
          clear hb HB5 HR5 HENC HBA
          rcases hgl with h0 | h2
          · rw [h0] at hq6 hm6 ⊢
            rw [if_pos rfl] at hq6 hm6
            have HQ6 := Lib.hid hq6
            rw [HLEN] at hm6
            subst hm6
            clear hq6 h0
            go_wp2_with fail
            go_at_call 22
            refine (list_any _ _ _ w6).mono ?_
            rintro e w7 ⟨rfl, hb⟩
            have HR7 := Lib.hid (HR6.out.trans (hb.mono HR6.out.size))
            have HB7 := Lib.hid (HB6.out.trans (hb.mono HB6.out.size))
            have HQ7 := Lib.hid (HQ6.out.below hb)
            clear hb HB6 HQ6 HR6
            go_wp2_with fail
            go_at_call 14
            refine (HSZ.out w7 HR7.out).mono ?_
            rintro e w8 ⟨rfl, hb⟩
            have HR8 := Lib.hid (HR7.out.trans (hb.mono HR7.out.size))
            have HB8 := Lib.hid (HB7.out.trans (hb.mono HB7.out.size))
            have HQ8 := Lib.hid (HQ7.out.below hb)
            have HP8 := Lib.hid (HPA.out.below HR8.out)
            clear hb HB7 HQ7 HR7 HSZ HPA
            have hcat : (enc (LV l)).drop (1 + nl) = encL l := by
              rw [HEQ.out, Nat.add_comm, List.drop_succ_cons]
              exact List.drop_left' HNL.out.2
            obtain ⟨bq, oq, rfl, _, hbq, _⟩ := HQ8.out.at' (by rw [HEQ.out]; simp)
            have hdr := HQ8.out.drop (1 + nl)
            rw [hcat] at hdr
            have HPC : Hid (∀ j, (convert 27 9 (.slice pa ma ca)).run Try.prog (w8.drewN j) = .ok (.string ⟨(encL l).toArray⟩) (w8.drewN j)) := Lib.hid fun j => by
              have := strOf (BAt.drewN HP8.out j) ca
              rwa [← HQ.out] at this
            have HQC : Hid (∀ j c, (convert 27 9 (.slice (some ⟨bq, oq + (1 + nl), none⟩) ma c)).run Try.prog (w8.drewN j) = .ok (.string ⟨(encL l).toArray⟩) (w8.drewN j)) := Lib.hid fun j c => by
              have := strOf (BAt.drewN hdr j) c
              rwa [← HQ.out] at this
            have HQ0 : Hid (ma = 0 → ∀ j q c, (convert 27 9 (.slice q 0 c)).run Try.prog (w8.drewN j) = .ok (.string ⟨(encL l).toArray⟩) (w8.drewN j)) := Lib.hid fun h j q c => by
              have he : encL l = [] := List.length_eq_zero_iff.1 (by rw [← HQ.out]; exact h)
              rw [he]
              exact strOf (BAt.nil (B := 0)) c
            clear hdr hcat hbq HEQ HLEN HLE hel HQ8 HP8 HGZ HR8
            generalize (⟨(encL l).toArray⟩ : ByteArray) = S at *
            generalize l.length = ll at *
            have w1 : IntKind.i64.wrap (2 * (ll : Int)) = 2 * (ll : Int) := by rw [IntKind.wrap_i64]; omega
            have w2 : IntKind.i64.wrap (1 + (nl : Int) + 2 * (ll : Int) - 2 * (ll : Int)) = 1 + (nl : Int) := by rw [IntKind.wrap_i64]; omega
            have w3 : IntKind.i64.wrap (1 + (nl : Int)) = 1 + (nl : Int) := by rw [IntKind.wrap_i64]; omega
            have k5 : (2 : Int) ≤ 1 + (nl : Int) := by omega
            have hp := HPC.out
            by_cases hma : ma = 0
            · have hq := HQ0.out hma
              subst hma
              have k3 : (1 : Int) + nl ≤ cc6 := by omega
              by_cases k2 : cc6 = 1 + nl
              · subst k2
                go_upto_region 27 with (fail)
                go_quiet (fail)
                go_wp2_with fail
                go_ret
                exact ⟨rfl, below_drewN HB8.out nq⟩
              · go_upto_region 27 with (fail)
                go_quiet (fail)
                go_wp2_with fail
                go_ret
                exact ⟨rfl, below_drewN HB8.out nq⟩
            · have k1 : (1 : Int) + nl ≤ 1 + nl + ma := by omega
              have k2 : ¬ cc6 = 1 + nl := by omega
              have k3 : (1 : Int) + nl ≤ cc6 := by omega
              have k4 : (1 : Int) + nl + ma ≤ cc6 := by omega
              have hq := HQC.out
              have w4 : IntKind.i64.wrap (1 + (nl : Int) + (ma : Int)) = 1 + (nl : Int) + (ma : Int) := by rw [IntKind.wrap_i64]; omega
              go_upto_region 27 with (fail)
              go_quiet (fail)
              go_wp2_with fail
              go_ret
              exact ⟨rfl, below_drewN HB8.out nq⟩
          · rw [h2] at hq6 hm6 ⊢
            clear hq6 hm6
            go_wp2_with fail
            go_ret
            exact ⟨rfl, HB6.out⟩
    · have i20 : (20 : Int) < (l.length : Int) := by omega
      go_enter Try.func8, Try.ntmps8
      go_wp2_with fail
      go_at_call 10
      refine (sane_any _).mono ?_
      rintro e w1 ⟨rfl, hb⟩
      have HB1 := Lib.hid hb; clear hb
      go_wp2_with fail
      go_at_call 11
      refine (HFEW.out w1 HB1.out).mono ?_
      rintro e w2 ⟨rfl, hb⟩
      have HB2 := Lib.hid (HB1.out.trans (hb.mono HB1.out.size)); clear hb HB1 HFEW
      go_wp2_with fail
      go_ret
      exact ⟨rfl, HB2.out⟩
  · rw [Bool.not_eq_true] at hfew
    rw [hfew] at HFEW
    go_enter Try.func8, Try.ntmps8
    go_wp2_with fail
    go_at_call 10
    refine (sane_any _).mono ?_
    rintro e w1 ⟨rfl, hb⟩
    have HB1 := Lib.hid hb; clear hb
    go_wp2_with fail
    go_at_call 11
    refine (HFEW.out w1 HB1.out).mono ?_
    rintro e w2 ⟨rfl, hb⟩
    have HB2 := Lib.hid (HB1.out.trans (hb.mono HB1.out.size)); clear hb HB1 HFEW
    go_wp2_with fail
    go_ret
    exact ⟨rfl, HB2.out⟩


set_option maxHeartbeats 1000000 in
set_option maxRecDepth 100000 in
theorem lifted (os : Os) (started : os.Started) (H : Type) (enc : TypeId × Value → H) :
    ReturnsInHanded {} Try.checked os 8 .any (Rows.codecListsSpec.pre6 enc Try.prog Try.f8 Rows.codecListsRow.domain false) (Rows.codecListsSpec.post enc Try.prog Try.f8 false true false false) := by
  refine returnsInHanded_of_change_sized (C := Try.checked) own' started (by kernel_rfl) Try.func8
    (ChangeSpec.witness6 (enc := enc) (C := Try.checked) false ⟨#[], #[.slice none 0 0], []⟩ 8 (by kernel_rfl) (by kernel_rfl) (by kernel_rfl) (by kernel_rfl)) ?_
  intro W base args ds gs before hval0 hW _ hsz0 _
  have hsz : (DataW.weightsEach Try.prog (Try.f8.params.toList ++ Rows.codecListsSpec.plain.varTypes Try.prog) (ds ++ gs)).all (· ≤ reachBytes) = true := hsz0
  clear hsz0
  have hval : ∀ (j : Nat) t v, Try.f8.params[j]? = some t → args[j]? = some v → Value.okWide Try.prog W .any base t v := hval0
  have hW' := hW
  obtain ⟨p, q, hA0, hV, rfl, _, _⟩ := hW
  have hA : DataW.TrodAll enc Try.prog W 0 (fun _ => true) true Try.f8.params.toList args.toList ds p := hA0
  rw [Try.params8] at hA hval hsz
  obtain ⟨v0, d0, rfl, rfl, h0⟩ := trodAll_one hA
  obtain ⟨rfl, rfl⟩ := trodVars_none hV
  have h0k := h0
  have sz0 : ∀ n ∈ d0.weights Try.prog 22, n ≤ reachBytes := fun n hn => by
    have := List.all_eq_true.1 hsz n (DataW.weights_mem_each (j := 0) (t := 22) (d := d0) rfl rfl n hn)
    simpa using this
  obtain ⟨u0, r0, c0, rfl, s0⟩ := open_values (hval 0 22 v0 rfl rfl) h0 sz0
  clear hA0 hval0
  simp only [List.append_nil] at hW'
  have lt0 : ∀ y ∈ p, y.block < W.heap.size := fun y hy => by simpa using hW'.lt y (by simp [hy])
  refine (walk W u0 r0 c0 s0).mono fun e W' ⟨he, hn⟩ => ?_
  subst he
  exact ⟨_, rfl, _, _, _, [], _, [], hW', trodAll_mk1 (shut_bool Try.underlying4 _), trodAll_mk1 (Below.trod laidOut (by kernel_rfl) (of_decide_eq_true (by kernel_rfl)) h0k hn lt0), rfl, hn.frame _, fun h => by cases h⟩

theorem over : Rows.codecListsRow.holds Try.pinned (OpenSpec.ofChange Rows.codecListsSpec) :=
  OpenClaim.holds_of_wide 8 Try.f8 rfl rfl rfl rfl rfl rfl rfl ⟨rfl, rfl, rfl, rfl, rfl⟩ rfl rfl rfl rfl rfl (by kernel_rfl) Try.func8 (by kernel_rfl)
    (of_decide_eq_true (by kernel_rfl)) (by unfold Func.isWrapper; first | (rw [if_pos (by decide +kernel)]; kernel_rfl) | (rw [if_neg (by decide +kernel)]; exact ⟨rfl, rfl⟩))
    (fun os started H enc _ => lifted os started H enc)

theorem proved : Rows.CodecListsSaid := over
#print axioms proved
end Go.Proofs.Ytopkpdaingmmeaa.codecLists
