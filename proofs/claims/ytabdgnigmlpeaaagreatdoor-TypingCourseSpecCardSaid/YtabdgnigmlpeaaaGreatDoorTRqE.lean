/- The specification's ranges: block 2. -/
import Derived.Test.YtabdgnigmlpeaaaGreatDoorTXQ
namespace Go.Proofs.YtabdgnigmlpeaaaGreatDoor
open Go.RowKit

set_option maxHeartbeats 32000000 in
set_option maxRecDepth 100000 in
theorem rqE_any {Q : Exit → Act → World → Prop} {A : World} {B : Nat} (wr : World) {m : Nat} {cs : Array Value} {l : List LegD} {p : Option Addr} {cap b off : Nat} (hl : l.length ≤ 1000)
    (NM : Hid (∀ a W, Calls Tryz.prog 98 #[.agg cs, .int .i64 a] W fun e w' => e = .returned (.bool (inI 0 ((m : Int) - 1) a)) ∧ Below W.heap.size W w'))
    (HLd : Hid (∀ w', Below A.heap.size A w' → (Instr.loadAt 33 (.pointer (some ⟨B, 0, none⟩))).run Tryz.prog w' = .ok (.agg cs) w' ∧ True))
    (HF : Hid (∀ w', Below A.heap.size A w' → w'.cell? ⟨B, 2, none⟩ = some (.slice p l.length cap))) (HE : Hid (∀ w', Below A.heap.size A w' → ∀ j (h : j < l.length), p = some ⟨b, off, none⟩ ∧ w'.cell? ⟨b, off + j * 4, none⟩ = some (.int .i64 l[j].f) ∧ w'.cell? ⟨b, off + j * 4 + 1, none⟩ = some (.int .i64 l[j].t) ∧ w'.cell? ⟨b, off + j * 4 + 2, none⟩ = some (.int .i64 l[j].mi) ∧ w'.cell? ⟨b, off + j * 4 + 3, none⟩ = some (.int .i64 l[j].ma)))
    {u0 u3 u7 u8 u9 u10 u11 u12 u13 u14 u15 u16 u17 u18 u19 u20 u21 u22 u23 u24 u25 u26 u27 u28 u29 u30 u31 u32 u33 u34 u35 u102 u103 u104 u105 u106 u107 u108 u109 u110 u111 u112 u113 u114 u115 u116 u117 u118 u119 u120 u121 u122 u123 u124 u125 u126 u127 u128 u129 u130 u131 u132 u133 u134 u135 u136 u137 u138 u139 u140 u141 u142 u143 u144 u145 u146 u147 u148 u149 u150 u151 u152 u153 u154 u155 u156 u157 u158 u159 u160 u161 u162 u163 u164 u165 u166 u167 u168 u169 u170 u171 u172 u173 u174 u175 u176 u177 u178 u179 u180 u181 u182 u183 u184 u185 u186 u187 u188 u189 u190 u191 u192 u193 u194 u195 u196 u197 u198 u199 u200 u201 u202 u203 u204 u205 u206 u207 u208 u209 u210 u211 u212 u213 u214 u215 u216 u217 u218 u219 u220 u221 u222 u223 u224 u225 u226 u227 u228 u229 u230 u231 u232 u233 u234 u235 u236 u237 u238 u239 u240 u241 u242 u243 u244 u245 u246 u247 u248 u249 u250 u251 u252 u253 u254 u255 u256 u257 u258 u259 u260 u261 u262 u263 u264 u265 u266 u267 u268 u269 u270 u271 u272 u273 u274 u275 u276 u277 u278 u279 u280 u281 u282 u283 u284 u285 u286 u287 u288 u289 u290 u291 u292 u293 u294 u295 u296 u297 u298 u299 u300 u301 u302 u303 u304 u305 u306 u307 u308 u309 u310 u311 u312 u313 u314 u315 u316 u317 u318 u319 u320 u321 u322 u323 u324 u2 y5 y6 y36 y37 y38 y39 y40 y41 y42 y43 y44 y45 y46 y47 y48 y49 y50 y51 y52 y53 y54 y55 y56 y57 y58 y59 y60 y61 y62 y63 y64 y65 y66 y67 y68 y69 y70 y71 y72 y73 y74 y75 y76 y77 y78 y79 y80 y81 y82 y83 y84 y85 y86 y87 y88 y89 y90 y91 y92 y93 y94 y95 y96 y97 y98 y99 y100 y101 : Value}
    (hQ : ∀ (z2 z4 z5 z6 z36 z37 z38 z39 z40 z41 z42 z43 z44 z45 z46 z47 z48 z49 z50 z51 z52 z53 z54 z55 z56 z57 z58 z59 z60 z61 z62 z63 z64 z65 z66 z67 z68 z69 z70 z71 z72 z73 z74 z75 z76 z77 z78 z79 z80 z81 z82 z83 z84 z85 z86 z87 z88 z89 z90 z91 z92 z93 z94 z95 z96 z97 z98 z99 z100 z101 : Value) (w' : World), okL (legR m) endsOf l = true → Hid (Below A.heap.size A w') → Q .normal ⟨#[u0, .pointer (some ⟨B, 0, none⟩), z2, u3, z4, z5, z6, u7, u8, u9, u10, u11, u12, u13, u14, u15, u16, u17, u18, u19, u20, u21, u22, u23, u24, u25, u26, u27, u28, u29, u30, u31, u32, u33, u34, u35, z36, z37, z38, z39, z40, z41, z42, z43, z44, z45, z46, z47, z48, z49, z50, z51, z52, z53, z54, z55, z56, z57, z58, z59, z60, z61, z62, z63, z64, z65, z66, z67, z68, z69, z70, z71, z72, z73, z74, z75, z76, z77, z78, z79, z80, z81, z82, z83, z84, z85, z86, z87, z88, z89, z90, z91, z92, z93, z94, z95, z96, z97, z98, z99, z100, z101, u102, u103, u104, u105, u106, u107, u108, u109, u110, u111, u112, u113, u114, u115, u116, u117, u118, u119, u120, u121, u122, u123, u124, u125, u126, u127, u128, u129, u130, u131, u132, u133, u134, u135, u136, u137, u138, u139, u140, u141, u142, u143, u144, u145, u146, u147, u148, u149, u150, u151, u152, u153, u154, u155, u156, u157, u158, u159, u160, u161, u162, u163, u164, u165, u166, u167, u168, u169, u170, u171, u172, u173, u174, u175, u176, u177, u178, u179, u180, u181, u182, u183, u184, u185, u186, u187, u188, u189, u190, u191, u192, u193, u194, u195, u196, u197, u198, u199, u200, u201, u202, u203, u204, u205, u206, u207, u208, u209, u210, u211, u212, u213, u214, u215, u216, u217, u218, u219, u220, u221, u222, u223, u224, u225, u226, u227, u228, u229, u230, u231, u232, u233, u234, u235, u236, u237, u238, u239, u240, u241, u242, u243, u244, u245, u246, u247, u248, u249, u250, u251, u252, u253, u254, u255, u256, u257, u258, u259, u260, u261, u262, u263, u264, u265, u266, u267, u268, u269, u270, u271, u272, u273, u274, u275, u276, u277, u278, u279, u280, u281, u282, u283, u284, u285, u286, u287, u288, u289, u290, u291, u292, u293, u294, u295, u296, u297, u298, u299, u300, u301, u302, u303, u304, u305, u306, u307, u308, u309, u310, u311, u312, u313, u314, u315, u316, u317, u318, u319, u320, u321, u322, u323, u324], []⟩ w')
    (hR : ∀ (z4 z5 z6 z36 z37 z38 z39 z40 z41 z42 z43 z44 z45 z46 z47 z48 z49 z50 z51 z52 z53 z54 z55 z56 z57 z58 z59 z60 z61 z62 z63 z64 z65 z66 z67 z68 z69 z70 z71 z72 z73 z74 z75 z76 z77 z78 z79 z80 z81 z82 z83 z84 z85 z86 z87 z88 z89 z90 z91 z92 z93 z94 z95 z96 z97 z98 z99 z100 z101 : Value) (w' : World), okL (legR m) endsOf l = false → Hid (Below A.heap.size A w') → Q .ret ⟨#[u0, .pointer (some ⟨B, 0, none⟩), .bool false, u3, z4, z5, z6, u7, u8, u9, u10, u11, u12, u13, u14, u15, u16, u17, u18, u19, u20, u21, u22, u23, u24, u25, u26, u27, u28, u29, u30, u31, u32, u33, u34, u35, z36, z37, z38, z39, z40, z41, z42, z43, z44, z45, z46, z47, z48, z49, z50, z51, z52, z53, z54, z55, z56, z57, z58, z59, z60, z61, z62, z63, z64, z65, z66, z67, z68, z69, z70, z71, z72, z73, z74, z75, z76, z77, z78, z79, z80, z81, z82, z83, z84, z85, z86, z87, z88, z89, z90, z91, z92, z93, z94, z95, z96, z97, z98, z99, z100, z101, u102, u103, u104, u105, u106, u107, u108, u109, u110, u111, u112, u113, u114, u115, u116, u117, u118, u119, u120, u121, u122, u123, u124, u125, u126, u127, u128, u129, u130, u131, u132, u133, u134, u135, u136, u137, u138, u139, u140, u141, u142, u143, u144, u145, u146, u147, u148, u149, u150, u151, u152, u153, u154, u155, u156, u157, u158, u159, u160, u161, u162, u163, u164, u165, u166, u167, u168, u169, u170, u171, u172, u173, u174, u175, u176, u177, u178, u179, u180, u181, u182, u183, u184, u185, u186, u187, u188, u189, u190, u191, u192, u193, u194, u195, u196, u197, u198, u199, u200, u201, u202, u203, u204, u205, u206, u207, u208, u209, u210, u211, u212, u213, u214, u215, u216, u217, u218, u219, u220, u221, u222, u223, u224, u225, u226, u227, u228, u229, u230, u231, u232, u233, u234, u235, u236, u237, u238, u239, u240, u241, u242, u243, u244, u245, u246, u247, u248, u249, u250, u251, u252, u253, u254, u255, u256, u257, u258, u259, u260, u261, u262, u263, u264, u265, u266, u267, u268, u269, u270, u271, u272, u273, u274, u275, u276, u277, u278, u279, u280, u281, u282, u283, u284, u285, u286, u287, u288, u289, u290, u291, u292, u293, u294, u295, u296, u297, u298, u299, u300, u301, u302, u303, u304, u305, u306, u307, u308, u309, u310, u311, u312, u313, u314, u315, u316, u317, u318, u319, u320, u321, u322, u323, u324], []⟩ w') (HB0 : Hid (Below A.heap.size A wr)) :
    Code.wp Tryz.prog (rgB 2) Q ⟨#[u0, .pointer (some ⟨B, 0, none⟩), u2, u3, .int .i64 0, y5, y6, u7, u8, u9, u10, u11, u12, u13, u14, u15, u16, u17, u18, u19, u20, u21, u22, u23, u24, u25, u26, u27, u28, u29, u30, u31, u32, u33, u34, u35, y36, y37, y38, y39, y40, y41, y42, y43, y44, y45, y46, y47, y48, y49, y50, y51, y52, y53, y54, y55, y56, y57, y58, y59, y60, y61, y62, y63, y64, y65, y66, y67, y68, y69, y70, y71, y72, y73, y74, y75, y76, y77, y78, y79, y80, y81, y82, y83, y84, y85, y86, y87, y88, y89, y90, y91, y92, y93, y94, y95, y96, y97, y98, y99, y100, y101, u102, u103, u104, u105, u106, u107, u108, u109, u110, u111, u112, u113, u114, u115, u116, u117, u118, u119, u120, u121, u122, u123, u124, u125, u126, u127, u128, u129, u130, u131, u132, u133, u134, u135, u136, u137, u138, u139, u140, u141, u142, u143, u144, u145, u146, u147, u148, u149, u150, u151, u152, u153, u154, u155, u156, u157, u158, u159, u160, u161, u162, u163, u164, u165, u166, u167, u168, u169, u170, u171, u172, u173, u174, u175, u176, u177, u178, u179, u180, u181, u182, u183, u184, u185, u186, u187, u188, u189, u190, u191, u192, u193, u194, u195, u196, u197, u198, u199, u200, u201, u202, u203, u204, u205, u206, u207, u208, u209, u210, u211, u212, u213, u214, u215, u216, u217, u218, u219, u220, u221, u222, u223, u224, u225, u226, u227, u228, u229, u230, u231, u232, u233, u234, u235, u236, u237, u238, u239, u240, u241, u242, u243, u244, u245, u246, u247, u248, u249, u250, u251, u252, u253, u254, u255, u256, u257, u258, u259, u260, u261, u262, u263, u264, u265, u266, u267, u268, u269, u270, u271, u272, u273, u274, u275, u276, u277, u278, u279, u280, u281, u282, u283, u284, u285, u286, u287, u288, u289, u290, u291, u292, u293, u294, u295, u296, u297, u298, u299, u300, u301, u302, u303, u304, u305, u306, u307, u308, u309, u310, u311, u312, u313, u314, u315, u316, u317, u318, u319, u320, u321, u322, u323, u324], []⟩ wr := by
  have HQ := Lib.hid hQ
  have HR := Lib.hid hR
  obtain ⟨T, hT⟩ : ∃ T, okL (legR m) endsOf l = T := ⟨_, rfl⟩
  have HT := Lib.hid hT
  have H0 : Hid (okL (legR m) endsOf (l.take 0) = true) := Lib.hid (by rw [List.take_zero]; rfl)
  clear hQ hR hT
  conv => arg 2; whnf
  dsimp only
  go_wp2_with fail
  go_loopw [4] (fun i wr => ∃ j : Nat, j ≤ l.length ∧ i = .int .i64 j ∧ Hid (okL (legR m) endsOf (l.take j) = true) ∧ Hid (Below A.heap.size A wr)) (fun i _ => l.length - (intOf i).toNat)
  case atStart => exact ⟨0, Nat.zero_le _, rfl, H0, HB0⟩
  case round =>
    obtain ⟨j, hj, rfl, HI, HB⟩ := hrel
    clear H0 HB0
    have f1 := HF.out _ HB.out
    by_cases hlt : j < l.length
    · have hji : (j : Int) < (l.length : Int) := by omega
      obtain ⟨rfl, a0, a1, a2, a3⟩ := HE.out _ HB.out j hlt
      obtain ⟨g, hg⟩ : ∃ g, l[j] = g := ⟨_, rfl⟩
      rw [hg] at a0 a1 a2 a3
      obtain ⟨zf, zt, zmi, zma⟩ := g
      simp only at *
      have HG := Lib.hid hg
      have HBA := Lib.hid (HB.out.alloc HB.out.size (.cells #[.int .i64 zf, .int .i64 zt, .int .i64 zmi, .int .i64 zma] 72))
      have HLA := Lib.hid (HLd.out _ HBA.out).1
      have HX : Hid (∀ V, V = wr.alloc (.cells #[.int .i64 zf, .int .i64 zt, .int .i64 zmi, .int .i64 zma] 72) → ∀ w', Below V.heap.size V w' → Below A.heap.size A w' ∧ w'.cell? ⟨wr.heap.size, 0, none⟩ = some (.int .i64 zf) ∧ w'.cell? ⟨wr.heap.size, 1, none⟩ = some (.int .i64 zt) ∧ w'.cell? ⟨wr.heap.size, 2, none⟩ = some (.int .i64 zmi) ∧ w'.cell? ⟨wr.heap.size, 3, none⟩ = some (.int .i64 zma)) := Lib.hid fun V e w' hb => by
        subst e
        exact ⟨HBA.out.trans (hb.mono HBA.out.size), keepc hb (by simp [go_sem]), keepc hb (by simp [go_sem]), keepc hb (by simp [go_sem]), keepc hb (by simp [go_sem])⟩
      have NM1 := Lib.hid (NM.out zf)
      have NM2 := Lib.hid (NM.out zt)
      obtain ⟨q1, hq1⟩ : ∃ q, inI 0 ((m : Int) - 1) zf = q := ⟨_, rfl⟩
      obtain ⟨q2, hq2⟩ : ∃ q, inI 0 ((m : Int) - 1) zt = q := ⟨_, rfl⟩
      rw [hq1] at NM1
      rw [hq2] at NM2
      have HQ1 := Lib.hid hq1
      have HQ2 := Lib.hid hq2
      clear hq1 hq2
      cases q1 with
      | false =>
        have hT : okL (legR m) endsOf l = false := okL_bad hlt (by rw [hg, legR_iff]; rw [HQ1.out]; rfl)
        have HTT := Lib.hid hT
        clear hT HT HI hg
        go_wp2_with (first | go_skip | (refine wpList_loadW (ty := 33) (x := .tmp 1) rfl rfl rfl HLA.out ?_) | (go_at_call 98; (with_reducible refine (NM1.out _).mono ?_); rintro e w5 ⟨rfl, hb⟩; have hv5 := hb; obtain ⟨hc5, x5_0, x5_1, x5_2, x5_3⟩ := HX.out _ rfl w5 hv5; have HB5 := Lib.hid hc5; have HL5 := Lib.hid (HLd.out _ hc5).1; have HV5 := Lib.hid hv5; clear hb hc5))
        exact HR.out _ _ _ _ _ _ _ _ _ _ _ _ _ _ _ _ _ _ _ _ _ _ _ _ _ _ _ _ _ _ _ _ _ _ _ _ _ _ _ _ _ _ _ _ _ _ _ _ _ _ _ _ _ _ _ _ _ _ _ _ _ _ _ _ _ _ _ _ _ _ HTT.out HB5
      | true =>
        cases q2 with
        | false =>
          have hT : okL (legR m) endsOf l = false := okL_bad hlt (by rw [hg, legR_iff]; rw [HQ1.out, HQ2.out]; rfl)
          have HTT := Lib.hid hT
          clear hT HT HI hg
          go_wp2_with (first | go_skip | (refine wpList_loadW (ty := 33) (x := .tmp 1) rfl rfl rfl HLA.out ?_) | (go_at_call 98; (with_reducible refine (NM1.out _).mono ?_); rintro e w5 ⟨rfl, hb⟩; have hv5 := hb; obtain ⟨hc5, x5_0, x5_1, x5_2, x5_3⟩ := HX.out _ rfl w5 hv5; have HB5 := Lib.hid hc5; have HL5 := Lib.hid (HLd.out _ hc5).1; have HV5 := Lib.hid hv5; clear hb hc5) | (refine wpList_loadW (ty := 33) (x := .tmp 1) rfl rfl rfl HL5.out ?_) | (go_at_call 98; (with_reducible refine (NM2.out _).mono ?_); rintro e w6 ⟨rfl, hb⟩; have hv6 := hv5.trans (hb.mono hv5.size); obtain ⟨hc6, x6_0, x6_1, x6_2, x6_3⟩ := HX.out _ rfl w6 hv6; have HB6 := Lib.hid hc6; have HL6 := Lib.hid (HLd.out _ hc6).1; have HV6 := Lib.hid hv6; clear hb hc6))
          exact HR.out _ _ _ _ _ _ _ _ _ _ _ _ _ _ _ _ _ _ _ _ _ _ _ _ _ _ _ _ _ _ _ _ _ _ _ _ _ _ _ _ _ _ _ _ _ _ _ _ _ _ _ _ _ _ _ _ _ _ _ _ _ _ _ _ _ _ _ _ _ _ HTT.out HB6
        | true =>
          by_cases h1 : 0 ≤ zmi
          · have k1 : ¬ zmi < 0 := by omega
            by_cases h2 : zmi ≤ zma
            · have k2 : ¬ zma < zmi := by omega
              by_cases h3 : zma ≤ 68719476736
              · have k3 : ¬ 68719476736 < zma := by omega
                have HPj : Hid (legR m l[j] = true) := Lib.hid (by rw [hg, legR_iff, HQ1.out, HQ2.out, decide_eq_true (show 0 ≤ zmi ∧ zmi ≤ zma ∧ zma ≤ 68719476736 from ⟨h1, h2, h3⟩)]; rfl)
                clear h1 h2 h3 hg
                go_wp2_with (first | go_skip | (refine wpList_loadW (ty := 33) (x := .tmp 1) rfl rfl rfl HLA.out ?_) | (go_at_call 98; (with_reducible refine (NM1.out _).mono ?_); rintro e w5 ⟨rfl, hb⟩; have hv5 := hb; obtain ⟨hc5, x5_0, x5_1, x5_2, x5_3⟩ := HX.out _ rfl w5 hv5; have HB5 := Lib.hid hc5; have HL5 := Lib.hid (HLd.out _ hc5).1; have HV5 := Lib.hid hv5; clear hb hc5) | (refine wpList_loadW (ty := 33) (x := .tmp 1) rfl rfl rfl HL5.out ?_) | (go_at_call 98; (with_reducible refine (NM2.out _).mono ?_); rintro e w6 ⟨rfl, hb⟩; have hv6 := hv5.trans (hb.mono hv5.size); obtain ⟨hc6, x6_0, x6_1, x6_2, x6_3⟩ := HX.out _ rfl w6 hv6; have HB6 := Lib.hid hc6; have HL6 := Lib.hid (HLd.out _ hc6).1; have HV6 := Lib.hid hv6; clear hb hc6))
                go_loopw [6] (fun i wr2 => ∃ k : Nat, k ≤ j ∧ i = .int .i64 k ∧ Hid (∀ z (hz : z < k), ∃ h : z < l.length, endsOf l[z] ≠ (zf, zt)) ∧ Hid (Below (wr.alloc (.cells #[.int .i64 zf, .int .i64 zt, .int .i64 zmi, .int .i64 zma] 72)).heap.size (wr.alloc (.cells #[.int .i64 zf, .int .i64 zt, .int .i64 zmi, .int .i64 zma] 72)) wr2)) (fun i _ => j - (intOf i).toNat)
                case atStart => exact ⟨0, Nat.zero_le _, rfl, Lib.hid (fun z hz => absurd hz (by omega)), HV6⟩
                case round =>
                  obtain ⟨k, hk, rfl, HD, HV⟩ := hrel
                  obtain ⟨hcA, y0, y1, -, -⟩ := HX.out _ rfl _ HV.out
                  have HBk := Lib.hid hcA
                  have f1 := HF.out _ hcA
                  have hjl : j < l.length := hlt
                  by_cases hkl : k < j
                  · have hki : (k : Int) < (j : Int) := by omega
                    have hki2 : (k : Int) < (l.length : Int) := by omega
                    obtain ⟨-, b0, b1, -, -⟩ := HE.out _ hcA k (by omega)
                    obtain ⟨u, hu⟩ : ∃ u, l[k]'(by omega) = u := ⟨_, rfl⟩
                    have HU : Hid (∃ h : k < l.length, l[k] = u) := Lib.hid ⟨by omega, hu⟩
                    rw [hu] at b0 b1
                    obtain ⟨uf, ut, umi, uma⟩ := u
                    simp only at *
                    clear hu hcA HE HI
                    by_cases e1 : uf = zf
                    · have d1 : (uf == zf) = true := by simpa using e1
                      by_cases e2 : ut = zt
                      · have d2 : (ut == zt) = true := by simpa using e2
                        have HTT : Hid (okL (legR m) endsOf l = false) := Lib.hid (okL_twice hjl hkl (by obtain ⟨h, hu⟩ := HU.out; rw [hu, HG.out]; simp [endsOf, e1, e2]))
                        clear e1 e2 HD HT
                        go_wp2_with fail
                        go_quiet (fail)
                        go_wp2_with fail
                        exact HR.out _ _ _ _ _ _ _ _ _ _ _ _ _ _ _ _ _ _ _ _ _ _ _ _ _ _ _ _ _ _ _ _ _ _ _ _ _ _ _ _ _ _ _ _ _ _ _ _ _ _ _ _ _ _ _ _ _ _ _ _ _ _ _ _ _ _ _ _ _ _ HTT.out (Lib.hid (bel_drewN HBk.out _))
                      · have d2 : (ut == zt) = false := by simpa using e2
                        have HD2 : Hid (∀ z (hz : z < k + 1), ∃ h : z < l.length, endsOf l[z] ≠ (zf, zt)) := Lib.hid fun z hz => by
                          by_cases hzk : z = k
                          · subst hzk
                            obtain ⟨h, hu⟩ := HU.out
                            refine ⟨h, ?_⟩
                            rw [hu]
                            simp [endsOf, e2]
                          · exact HD.out z (by omega)
                        clear e1 e2 HD HT
                        go_wp2_with fail
                        go_quiet (fail)
                        go_wp2_with fail
                        go_round
                        case rel => exact ⟨k + 1, by omega, by go_num, HD2, Lib.hid (bel_drewN HV.out _)⟩
                        case measure => simp [intOf]; omega
                    · have d1 : (uf == zf) = false := by simpa using e1
                      have HD2 : Hid (∀ z (hz : z < k + 1), ∃ h : z < l.length, endsOf l[z] ≠ (zf, zt)) := Lib.hid fun z hz => by
                        by_cases hzk : z = k
                        · subst hzk
                          obtain ⟨h, hu⟩ := HU.out
                          refine ⟨h, ?_⟩
                          rw [hu]
                          simp [endsOf, e1]
                        · exact HD.out z (by omega)
                      clear e1 HD HT
                      go_wp2_with fail
                      go_quiet (fail)
                      go_wp2_with fail
                      go_round
                      case rel => exact ⟨k + 1, by omega, by go_num, HD2, Lib.hid (bel_drewN HV.out _)⟩
                      case measure => simp [intOf]; omega
                  · have hki : ¬ (k : Int) < (j : Int) := by omega
                    have HI2 : Hid (okL (legR m) endsOf (l.take (j + 1)) = true) := Lib.hid (okL_one hjl HI.out HPj.out fun z hz => by obtain ⟨h, he⟩ := HD.out z (by omega); rw [HG.out]; exact he)
                    clear HI HD HE HT hcA
                    go_wp2_with fail
                    go_roundw
                    case rel => exact ⟨j + 1, by omega, by go_num, HI2, HBk⟩
                    case measure => simp [intOf]; omega
              · have k3 : 68719476736 < zma := by omega
                have hT : okL (legR m) endsOf l = false := okL_bad hlt (by rw [hg, legR_iff]; rw [decide_eq_false (show ¬ (0 ≤ zmi ∧ zmi ≤ zma ∧ zma ≤ 68719476736) by omega)]; simp)
                have HTT := Lib.hid hT
                clear hT HT HI hg h1 h2 h3
                go_wp2_with (first | go_skip | (refine wpList_loadW (ty := 33) (x := .tmp 1) rfl rfl rfl HLA.out ?_) | (go_at_call 98; (with_reducible refine (NM1.out _).mono ?_); rintro e w5 ⟨rfl, hb⟩; have hv5 := hb; obtain ⟨hc5, x5_0, x5_1, x5_2, x5_3⟩ := HX.out _ rfl w5 hv5; have HB5 := Lib.hid hc5; have HL5 := Lib.hid (HLd.out _ hc5).1; have HV5 := Lib.hid hv5; clear hb hc5) | (refine wpList_loadW (ty := 33) (x := .tmp 1) rfl rfl rfl HL5.out ?_) | (go_at_call 98; (with_reducible refine (NM2.out _).mono ?_); rintro e w6 ⟨rfl, hb⟩; have hv6 := hv5.trans (hb.mono hv5.size); obtain ⟨hc6, x6_0, x6_1, x6_2, x6_3⟩ := HX.out _ rfl w6 hv6; have HB6 := Lib.hid hc6; have HL6 := Lib.hid (HLd.out _ hc6).1; have HV6 := Lib.hid hv6; clear hb hc6))
                exact HR.out _ _ _ _ _ _ _ _ _ _ _ _ _ _ _ _ _ _ _ _ _ _ _ _ _ _ _ _ _ _ _ _ _ _ _ _ _ _ _ _ _ _ _ _ _ _ _ _ _ _ _ _ _ _ _ _ _ _ _ _ _ _ _ _ _ _ _ _ _ _ HTT.out HB6
            · have k2 : zma < zmi := by omega
              have hT : okL (legR m) endsOf l = false := okL_bad hlt (by rw [hg, legR_iff]; rw [decide_eq_false (show ¬ (0 ≤ zmi ∧ zmi ≤ zma ∧ zma ≤ 68719476736) by omega)]; simp)
              have HTT := Lib.hid hT
              clear hT HT HI hg h1 h2
              go_wp2_with (first | go_skip | (refine wpList_loadW (ty := 33) (x := .tmp 1) rfl rfl rfl HLA.out ?_) | (go_at_call 98; (with_reducible refine (NM1.out _).mono ?_); rintro e w5 ⟨rfl, hb⟩; have hv5 := hb; obtain ⟨hc5, x5_0, x5_1, x5_2, x5_3⟩ := HX.out _ rfl w5 hv5; have HB5 := Lib.hid hc5; have HL5 := Lib.hid (HLd.out _ hc5).1; have HV5 := Lib.hid hv5; clear hb hc5) | (refine wpList_loadW (ty := 33) (x := .tmp 1) rfl rfl rfl HL5.out ?_) | (go_at_call 98; (with_reducible refine (NM2.out _).mono ?_); rintro e w6 ⟨rfl, hb⟩; have hv6 := hv5.trans (hb.mono hv5.size); obtain ⟨hc6, x6_0, x6_1, x6_2, x6_3⟩ := HX.out _ rfl w6 hv6; have HB6 := Lib.hid hc6; have HL6 := Lib.hid (HLd.out _ hc6).1; have HV6 := Lib.hid hv6; clear hb hc6))
              exact HR.out _ _ _ _ _ _ _ _ _ _ _ _ _ _ _ _ _ _ _ _ _ _ _ _ _ _ _ _ _ _ _ _ _ _ _ _ _ _ _ _ _ _ _ _ _ _ _ _ _ _ _ _ _ _ _ _ _ _ _ _ _ _ _ _ _ _ _ _ _ _ HTT.out HB6
          · have k1 : zmi < 0 := by omega
            have hT : okL (legR m) endsOf l = false := okL_bad hlt (by rw [hg, legR_iff]; rw [decide_eq_false (show ¬ (0 ≤ zmi ∧ zmi ≤ zma ∧ zma ≤ 68719476736) by omega)]; simp)
            have HTT := Lib.hid hT
            clear hT HT HI hg h1
            go_wp2_with (first | go_skip | (refine wpList_loadW (ty := 33) (x := .tmp 1) rfl rfl rfl HLA.out ?_) | (go_at_call 98; (with_reducible refine (NM1.out _).mono ?_); rintro e w5 ⟨rfl, hb⟩; have hv5 := hb; obtain ⟨hc5, x5_0, x5_1, x5_2, x5_3⟩ := HX.out _ rfl w5 hv5; have HB5 := Lib.hid hc5; have HL5 := Lib.hid (HLd.out _ hc5).1; have HV5 := Lib.hid hv5; clear hb hc5) | (refine wpList_loadW (ty := 33) (x := .tmp 1) rfl rfl rfl HL5.out ?_) | (go_at_call 98; (with_reducible refine (NM2.out _).mono ?_); rintro e w6 ⟨rfl, hb⟩; have hv6 := hv5.trans (hb.mono hv5.size); obtain ⟨hc6, x6_0, x6_1, x6_2, x6_3⟩ := HX.out _ rfl w6 hv6; have HB6 := Lib.hid hc6; have HL6 := Lib.hid (HLd.out _ hc6).1; have HV6 := Lib.hid hv6; clear hb hc6))
            exact HR.out _ _ _ _ _ _ _ _ _ _ _ _ _ _ _ _ _ _ _ _ _ _ _ _ _ _ _ _ _ _ _ _ _ _ _ _ _ _ _ _ _ _ _ _ _ _ _ _ _ _ _ _ _ _ _ _ _ _ _ _ _ _ _ _ _ _ _ _ _ _ HTT.out HB6
    · have hji : ¬ (j : Int) < (l.length : Int) := by omega
      have hT : okL (legR m) endsOf l = true := by
        have := HI.out
        rwa [List.take_of_length_le (by omega)] at this
      have HTT := Lib.hid hT
      clear HE HI hT
      go_wp2_with fail
      exact HQ.out _ _ _ _ _ _ _ _ _ _ _ _ _ _ _ _ _ _ _ _ _ _ _ _ _ _ _ _ _ _ _ _ _ _ _ _ _ _ _ _ _ _ _ _ _ _ _ _ _ _ _ _ _ _ _ _ _ _ _ _ _ _ _ _ _ _ _ _ _ _ _ HTT.out HB
end Go.Proofs.YtabdgnigmlpeaaaGreatDoor
