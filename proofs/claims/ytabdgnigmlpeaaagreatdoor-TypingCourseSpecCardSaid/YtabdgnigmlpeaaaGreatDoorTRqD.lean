/- The specification's ranges: block 10. -/
import Derived.Test.YtabdgnigmlpeaaaGreatDoorTXQ
namespace Go.Proofs.YtabdgnigmlpeaaaGreatDoor
open Go.RowKit

set_option maxHeartbeats 32000000 in
set_option maxRecDepth 100000 in
theorem rqD_any {Q : Exit → Act → World → Prop} {A : World} {B : Nat} (wr : World) {l : List OffD} {p : Option Addr} {cap b off : Nat} (hl : l.length ≤ 1000)
    (HF : Hid (∀ w', Below A.heap.size A w' → w'.cell? ⟨B, 5, none⟩ = some (.slice p l.length cap))) (HE : Hid (∀ w', Below A.heap.size A w' → ∀ j (h : j < l.length), p = some ⟨b, off, none⟩ ∧ w'.cell? ⟨b, off + j * 4, none⟩ = some (.string l[j].n) ∧ w'.cell? ⟨b, off + j * 4 + 1, none⟩ = some (.int .i64 l[j].t) ∧ w'.cell? ⟨b, off + j * 4 + 2, none⟩ = some (.int .i64 l[j].l) ∧ w'.cell? ⟨b, off + j * 4 + 3, none⟩ = some (.bool l[j].o)))
    {u0 u3 u4 u5 u6 u7 u8 u14 u15 u16 u17 u18 u19 u20 u21 u22 u23 u24 u25 u26 u27 u28 u29 u30 u31 u32 u33 u34 u35 u36 u37 u38 u39 u40 u41 u42 u43 u44 u45 u46 u47 u48 u49 u50 u51 u52 u53 u54 u55 u56 u57 u58 u59 u60 u61 u62 u63 u64 u65 u66 u67 u68 u69 u70 u71 u72 u73 u74 u75 u76 u77 u78 u79 u80 u81 u82 u83 u84 u85 u86 u87 u88 u89 u90 u91 u92 u93 u94 u95 u96 u97 u98 u99 u100 u101 u102 u103 u104 u105 u106 u107 u108 u109 u110 u111 u112 u113 u114 u115 u116 u117 u118 u119 u120 u121 u122 u123 u124 u125 u126 u127 u128 u129 u130 u131 u192 u193 u194 u195 u196 u197 u198 u199 u200 u201 u202 u203 u204 u205 u206 u207 u208 u209 u210 u211 u212 u213 u214 u215 u216 u217 u218 u219 u220 u221 u222 u223 u224 u225 u226 u227 u228 u229 u230 u231 u232 u233 u234 u235 u236 u237 u238 u239 u240 u241 u242 u243 u244 u245 u246 u247 u248 u249 u250 u251 u252 u253 u254 u255 u256 u257 u258 u259 u260 u261 u262 u263 u264 u265 u266 u267 u268 u269 u270 u271 u272 u273 u274 u275 u276 u277 u278 u279 u280 u281 u282 u283 u284 u285 u286 u287 u288 u289 u290 u291 u292 u293 u294 u295 u296 u297 u298 u299 u300 u301 u302 u303 u304 u305 u306 u307 u308 u309 u310 u311 u312 u313 u314 u315 u316 u317 u318 u319 u320 u321 u322 u323 u324 u2 y10 y11 y12 y13 y132 y133 y134 y135 y136 y137 y138 y139 y140 y141 y142 y143 y144 y145 y146 y147 y148 y149 y150 y151 y152 y153 y154 y155 y156 y157 y158 y159 y160 y161 y162 y163 y164 y165 y166 y167 y168 y169 y170 y171 y172 y173 y174 y175 y176 y177 y178 y179 y180 y181 y182 y183 y184 y185 y186 y187 y188 y189 y190 y191 : Value}
    (hQ : ∀ (z2 z9 z10 z11 z12 z13 z132 z133 z134 z135 z136 z137 z138 z139 z140 z141 z142 z143 z144 z145 z146 z147 z148 z149 z150 z151 z152 z153 z154 z155 z156 z157 z158 z159 z160 z161 z162 z163 z164 z165 z166 z167 z168 z169 z170 z171 z172 z173 z174 z175 z176 z177 z178 z179 z180 z181 z182 z183 z184 z185 z186 z187 z188 z189 z190 z191 : Value) (w' : World), l.all offR = true → Hid (Below A.heap.size A w') → Q .normal ⟨#[u0, .pointer (some ⟨B, 0, none⟩), z2, u3, u4, u5, u6, u7, u8, z9, z10, z11, z12, z13, u14, u15, u16, u17, u18, u19, u20, u21, u22, u23, u24, u25, u26, u27, u28, u29, u30, u31, u32, u33, u34, u35, u36, u37, u38, u39, u40, u41, u42, u43, u44, u45, u46, u47, u48, u49, u50, u51, u52, u53, u54, u55, u56, u57, u58, u59, u60, u61, u62, u63, u64, u65, u66, u67, u68, u69, u70, u71, u72, u73, u74, u75, u76, u77, u78, u79, u80, u81, u82, u83, u84, u85, u86, u87, u88, u89, u90, u91, u92, u93, u94, u95, u96, u97, u98, u99, u100, u101, u102, u103, u104, u105, u106, u107, u108, u109, u110, u111, u112, u113, u114, u115, u116, u117, u118, u119, u120, u121, u122, u123, u124, u125, u126, u127, u128, u129, u130, u131, z132, z133, z134, z135, z136, z137, z138, z139, z140, z141, z142, z143, z144, z145, z146, z147, z148, z149, z150, z151, z152, z153, z154, z155, z156, z157, z158, z159, z160, z161, z162, z163, z164, z165, z166, z167, z168, z169, z170, z171, z172, z173, z174, z175, z176, z177, z178, z179, z180, z181, z182, z183, z184, z185, z186, z187, z188, z189, z190, z191, u192, u193, u194, u195, u196, u197, u198, u199, u200, u201, u202, u203, u204, u205, u206, u207, u208, u209, u210, u211, u212, u213, u214, u215, u216, u217, u218, u219, u220, u221, u222, u223, u224, u225, u226, u227, u228, u229, u230, u231, u232, u233, u234, u235, u236, u237, u238, u239, u240, u241, u242, u243, u244, u245, u246, u247, u248, u249, u250, u251, u252, u253, u254, u255, u256, u257, u258, u259, u260, u261, u262, u263, u264, u265, u266, u267, u268, u269, u270, u271, u272, u273, u274, u275, u276, u277, u278, u279, u280, u281, u282, u283, u284, u285, u286, u287, u288, u289, u290, u291, u292, u293, u294, u295, u296, u297, u298, u299, u300, u301, u302, u303, u304, u305, u306, u307, u308, u309, u310, u311, u312, u313, u314, u315, u316, u317, u318, u319, u320, u321, u322, u323, u324], []⟩ w')
    (hR : ∀ (z9 z10 z11 z12 z13 z132 z133 z134 z135 z136 z137 z138 z139 z140 z141 z142 z143 z144 z145 z146 z147 z148 z149 z150 z151 z152 z153 z154 z155 z156 z157 z158 z159 z160 z161 z162 z163 z164 z165 z166 z167 z168 z169 z170 z171 z172 z173 z174 z175 z176 z177 z178 z179 z180 z181 z182 z183 z184 z185 z186 z187 z188 z189 z190 z191 : Value) (w' : World), l.all offR = false → Hid (Below A.heap.size A w') → Q .ret ⟨#[u0, .pointer (some ⟨B, 0, none⟩), .bool false, u3, u4, u5, u6, u7, u8, z9, z10, z11, z12, z13, u14, u15, u16, u17, u18, u19, u20, u21, u22, u23, u24, u25, u26, u27, u28, u29, u30, u31, u32, u33, u34, u35, u36, u37, u38, u39, u40, u41, u42, u43, u44, u45, u46, u47, u48, u49, u50, u51, u52, u53, u54, u55, u56, u57, u58, u59, u60, u61, u62, u63, u64, u65, u66, u67, u68, u69, u70, u71, u72, u73, u74, u75, u76, u77, u78, u79, u80, u81, u82, u83, u84, u85, u86, u87, u88, u89, u90, u91, u92, u93, u94, u95, u96, u97, u98, u99, u100, u101, u102, u103, u104, u105, u106, u107, u108, u109, u110, u111, u112, u113, u114, u115, u116, u117, u118, u119, u120, u121, u122, u123, u124, u125, u126, u127, u128, u129, u130, u131, z132, z133, z134, z135, z136, z137, z138, z139, z140, z141, z142, z143, z144, z145, z146, z147, z148, z149, z150, z151, z152, z153, z154, z155, z156, z157, z158, z159, z160, z161, z162, z163, z164, z165, z166, z167, z168, z169, z170, z171, z172, z173, z174, z175, z176, z177, z178, z179, z180, z181, z182, z183, z184, z185, z186, z187, z188, z189, z190, z191, u192, u193, u194, u195, u196, u197, u198, u199, u200, u201, u202, u203, u204, u205, u206, u207, u208, u209, u210, u211, u212, u213, u214, u215, u216, u217, u218, u219, u220, u221, u222, u223, u224, u225, u226, u227, u228, u229, u230, u231, u232, u233, u234, u235, u236, u237, u238, u239, u240, u241, u242, u243, u244, u245, u246, u247, u248, u249, u250, u251, u252, u253, u254, u255, u256, u257, u258, u259, u260, u261, u262, u263, u264, u265, u266, u267, u268, u269, u270, u271, u272, u273, u274, u275, u276, u277, u278, u279, u280, u281, u282, u283, u284, u285, u286, u287, u288, u289, u290, u291, u292, u293, u294, u295, u296, u297, u298, u299, u300, u301, u302, u303, u304, u305, u306, u307, u308, u309, u310, u311, u312, u313, u314, u315, u316, u317, u318, u319, u320, u321, u322, u323, u324], []⟩ w') (HB0 : Hid (Below A.heap.size A wr)) :
    Code.wp Tryz.prog (rgB 10) Q ⟨#[u0, .pointer (some ⟨B, 0, none⟩), u2, u3, u4, u5, u6, u7, u8, .int .i64 0, y10, y11, y12, y13, u14, u15, u16, u17, u18, u19, u20, u21, u22, u23, u24, u25, u26, u27, u28, u29, u30, u31, u32, u33, u34, u35, u36, u37, u38, u39, u40, u41, u42, u43, u44, u45, u46, u47, u48, u49, u50, u51, u52, u53, u54, u55, u56, u57, u58, u59, u60, u61, u62, u63, u64, u65, u66, u67, u68, u69, u70, u71, u72, u73, u74, u75, u76, u77, u78, u79, u80, u81, u82, u83, u84, u85, u86, u87, u88, u89, u90, u91, u92, u93, u94, u95, u96, u97, u98, u99, u100, u101, u102, u103, u104, u105, u106, u107, u108, u109, u110, u111, u112, u113, u114, u115, u116, u117, u118, u119, u120, u121, u122, u123, u124, u125, u126, u127, u128, u129, u130, u131, y132, y133, y134, y135, y136, y137, y138, y139, y140, y141, y142, y143, y144, y145, y146, y147, y148, y149, y150, y151, y152, y153, y154, y155, y156, y157, y158, y159, y160, y161, y162, y163, y164, y165, y166, y167, y168, y169, y170, y171, y172, y173, y174, y175, y176, y177, y178, y179, y180, y181, y182, y183, y184, y185, y186, y187, y188, y189, y190, y191, u192, u193, u194, u195, u196, u197, u198, u199, u200, u201, u202, u203, u204, u205, u206, u207, u208, u209, u210, u211, u212, u213, u214, u215, u216, u217, u218, u219, u220, u221, u222, u223, u224, u225, u226, u227, u228, u229, u230, u231, u232, u233, u234, u235, u236, u237, u238, u239, u240, u241, u242, u243, u244, u245, u246, u247, u248, u249, u250, u251, u252, u253, u254, u255, u256, u257, u258, u259, u260, u261, u262, u263, u264, u265, u266, u267, u268, u269, u270, u271, u272, u273, u274, u275, u276, u277, u278, u279, u280, u281, u282, u283, u284, u285, u286, u287, u288, u289, u290, u291, u292, u293, u294, u295, u296, u297, u298, u299, u300, u301, u302, u303, u304, u305, u306, u307, u308, u309, u310, u311, u312, u313, u314, u315, u316, u317, u318, u319, u320, u321, u322, u323, u324], []⟩ wr := by
  have NI : Hid (∀ a lo hi W, Calls Tryz.prog 97 #[.int .i64 a, .int .i64 lo, .int .i64 hi] W fun e w' => e = .returned (.bool (inI lo hi a)) ∧ Below W.heap.size W w') := Lib.hid fun a lo hi W => rbet_any a lo hi W
  obtain ⟨T, hT⟩ : ∃ T, l.all offR = T := ⟨_, rfl⟩
  rw [hT] at hQ hR
  have H0 : Hid ((l.drop 0).all offR = T) := Lib.hid (by rw [List.drop_zero]; exact hT)
  clear hT
  have HQ := Lib.hid hQ
  have HR := Lib.hid hR
  clear hQ hR
  conv => arg 2; whnf
  dsimp only
  go_wp2_with fail
  go_loopw [9] (fun i wr => ∃ j : Nat, j ≤ l.length ∧ i = .int .i64 j ∧ Hid ((l.drop j).all offR = T) ∧ Hid (Below A.heap.size A wr)) (fun i _ => l.length - (intOf i).toNat)
  case atStart => exact ⟨0, Nat.zero_le _, rfl, H0, HB0⟩
  case round =>
    obtain ⟨j, hj, rfl, HI, HB⟩ := hrel
    clear H0 HB0
    have f1 := HF.out _ HB.out
    by_cases hlt : j < l.length
    · have hji : (j : Int) < (l.length : Int) := by omega
      obtain ⟨rfl, a0, a1, a2, a3⟩ := HE.out _ HB.out j hlt
      have hI := HI.out
      rw [(List.getElem_cons_drop hlt).symm, List.all_cons] at hI
      clear HE HI
      generalize l[j] = z at *
      obtain ⟨zn, zt, zl, zo⟩ := z
      simp only at *
      have HBA := Lib.hid (HB.out.alloc HB.out.size (.cells #[.string zn, .int .i64 zt, .int .i64 zl, .bool zo] 79))
      have HX : Hid (∀ V, V = wr.alloc (.cells #[.string zn, .int .i64 zt, .int .i64 zl, .bool zo] 79) → ∀ w', Below V.heap.size V w' → Below A.heap.size A w' ∧ w'.cell? ⟨wr.heap.size, 1, none⟩ = some (.int .i64 zt) ∧ w'.cell? ⟨wr.heap.size, 2, none⟩ = some (.int .i64 zl) ∧ w'.cell? ⟨wr.heap.size, 3, none⟩ = some (.bool zo)) := Lib.hid fun V e w' hb => by
        subst e
        exact ⟨HBA.out.trans (hb.mono HBA.out.size), keepc hb (by simp [go_sem]), keepc hb (by simp [go_sem]), keepc hb (by simp [go_sem])⟩
      have NI1 := Lib.hid (NI.out zt 0 68719476736)
      have NI2 := Lib.hid (NI.out zl 1 64)
      obtain ⟨q1, hq1⟩ : ∃ q, inI 0 68719476736 zt = q := ⟨_, rfl⟩
      obtain ⟨q2, hq2⟩ : ∃ q, inI 1 64 zl = q := ⟨_, rfl⟩
      rw [hq1] at NI1
      rw [hq2] at NI2
      clear NI
      cases zo with
      | true =>
        by_cases ht : zt = 0
        · subst ht
          obtain rfl : q1 = true := by rw [← hq1]; rfl
          by_cases hl : zl = 0
          · subst hl
            obtain rfl : q2 = false := by rw [← hq2]; rfl
            have HI2 : Hid ((l.drop (j + 1)).all offR = T) := Lib.hid (by rw [← hI]; rw [show offR ⟨zn, 0, 0, true⟩ = true from rfl]; rfl)
            clear hI hq1 hq2
            go_wp2_with (first | go_skip | (go_at_call 97; (with_reducible refine (NI1.out _).mono ?_); rintro e w5 ⟨rfl, hb⟩; have hv5 := hb; obtain ⟨hc5, x5_1, x5_2, x5_3⟩ := HX.out _ rfl w5 hv5; have HB5 := Lib.hid hc5; clear hb hc5) | (go_at_call 97; (with_reducible refine (NI2.out _).mono ?_); rintro e w6 ⟨rfl, hb⟩; have hv6 := hv5.trans (hb.mono hv5.size); obtain ⟨hc6, x6_1, x6_2, x6_3⟩ := HX.out _ rfl w6 hv6; have HB6 := Lib.hid hc6; clear hb hc6))
            go_round
            case rel => exact ⟨j + 1, by omega, by go_num, HI2, HB6⟩
            case measure => simp [intOf]; omega
          · have hl2 : (zl == 0) = false := by simpa using hl
            cases q2 with
            | true =>
              have hT : T = false := by rw [← hI]; rw [show offR ⟨zn, 0, zl, true⟩ = false from by show ((0 : Int) == 0 && (zl == 0)) = false; rw [hl2]; rfl]; rfl
              subst hT
              clear hI hl hq1 hq2
              go_wp2_with (first | go_skip | (go_at_call 97; (with_reducible refine (NI1.out _).mono ?_); rintro e w5 ⟨rfl, hb⟩; have hv5 := hb; obtain ⟨hc5, x5_1, x5_2, x5_3⟩ := HX.out _ rfl w5 hv5; have HB5 := Lib.hid hc5; clear hb hc5) | (go_at_call 97; (with_reducible refine (NI2.out _).mono ?_); rintro e w6 ⟨rfl, hb⟩; have hv6 := hv5.trans (hb.mono hv5.size); obtain ⟨hc6, x6_1, x6_2, x6_3⟩ := HX.out _ rfl w6 hv6; have HB6 := Lib.hid hc6; clear hb hc6))
              exact HR.out _ _ _ _ _ _ _ _ _ _ _ _ _ _ _ _ _ _ _ _ _ _ _ _ _ _ _ _ _ _ _ _ _ _ _ _ _ _ _ _ _ _ _ _ _ _ _ _ _ _ _ _ _ _ _ _ _ _ _ _ _ _ _ _ _ _ (by first | rfl | trivial) HB6
            | false =>
              have hT : T = false := by rw [← hI]; rw [show offR ⟨zn, 0, zl, true⟩ = false from by show ((0 : Int) == 0 && (zl == 0)) = false; rw [hl2]; rfl]; rfl
              subst hT
              clear hI hl hq1 hq2
              go_wp2_with (first | go_skip | (go_at_call 97; (with_reducible refine (NI1.out _).mono ?_); rintro e w5 ⟨rfl, hb⟩; have hv5 := hb; obtain ⟨hc5, x5_1, x5_2, x5_3⟩ := HX.out _ rfl w5 hv5; have HB5 := Lib.hid hc5; clear hb hc5) | (go_at_call 97; (with_reducible refine (NI2.out _).mono ?_); rintro e w6 ⟨rfl, hb⟩; have hv6 := hv5.trans (hb.mono hv5.size); obtain ⟨hc6, x6_1, x6_2, x6_3⟩ := HX.out _ rfl w6 hv6; have HB6 := Lib.hid hc6; clear hb hc6))
              exact HR.out _ _ _ _ _ _ _ _ _ _ _ _ _ _ _ _ _ _ _ _ _ _ _ _ _ _ _ _ _ _ _ _ _ _ _ _ _ _ _ _ _ _ _ _ _ _ _ _ _ _ _ _ _ _ _ _ _ _ _ _ _ _ _ _ _ _ (by first | rfl | trivial) HB6
        · have ht2 : (zt == 0) = false := by simpa using ht
          by_cases hl : zl = 0
          · subst hl
            obtain rfl : q2 = false := by rw [← hq2]; rfl
            cases q1 with
            | true =>
              have hT : T = false := by rw [← hI]; rw [show offR ⟨zn, zt, 0, true⟩ = false from by show ((zt == 0) && _) = false; rw [ht2]; rfl]; rfl
              subst hT
              clear hI ht hq1 hq2
              go_wp2_with (first | go_skip | (go_at_call 97; (with_reducible refine (NI1.out _).mono ?_); rintro e w5 ⟨rfl, hb⟩; have hv5 := hb; obtain ⟨hc5, x5_1, x5_2, x5_3⟩ := HX.out _ rfl w5 hv5; have HB5 := Lib.hid hc5; clear hb hc5))
              exact HR.out _ _ _ _ _ _ _ _ _ _ _ _ _ _ _ _ _ _ _ _ _ _ _ _ _ _ _ _ _ _ _ _ _ _ _ _ _ _ _ _ _ _ _ _ _ _ _ _ _ _ _ _ _ _ _ _ _ _ _ _ _ _ _ _ _ _ (by first | rfl | trivial) HB5
            | false =>
              have hT : T = false := by rw [← hI]; rw [show offR ⟨zn, zt, 0, true⟩ = false from by show ((zt == 0) && _) = false; rw [ht2]; rfl]; rfl
              subst hT
              clear hI ht hq1 hq2
              go_wp2_with (first | go_skip | (go_at_call 97; (with_reducible refine (NI1.out _).mono ?_); rintro e w5 ⟨rfl, hb⟩; have hv5 := hb; obtain ⟨hc5, x5_1, x5_2, x5_3⟩ := HX.out _ rfl w5 hv5; have HB5 := Lib.hid hc5; clear hb hc5))
              exact HR.out _ _ _ _ _ _ _ _ _ _ _ _ _ _ _ _ _ _ _ _ _ _ _ _ _ _ _ _ _ _ _ _ _ _ _ _ _ _ _ _ _ _ _ _ _ _ _ _ _ _ _ _ _ _ _ _ _ _ _ _ _ _ _ _ _ _ (by first | rfl | trivial) HB5
          · have hl2 : (zl == 0) = false := by simpa using hl
            cases q1 with
            | true =>
              cases q2 with
              | true =>
                have hT : T = false := by rw [← hI]; rw [show offR ⟨zn, zt, zl, true⟩ = false from by show ((zt == 0) && _) = false; rw [ht2]; rfl]; rfl
                subst hT
                clear hI ht hl hq1 hq2
                go_wp2_with (first | go_skip | (go_at_call 97; (with_reducible refine (NI1.out _).mono ?_); rintro e w5 ⟨rfl, hb⟩; have hv5 := hb; obtain ⟨hc5, x5_1, x5_2, x5_3⟩ := HX.out _ rfl w5 hv5; have HB5 := Lib.hid hc5; clear hb hc5))
                exact HR.out _ _ _ _ _ _ _ _ _ _ _ _ _ _ _ _ _ _ _ _ _ _ _ _ _ _ _ _ _ _ _ _ _ _ _ _ _ _ _ _ _ _ _ _ _ _ _ _ _ _ _ _ _ _ _ _ _ _ _ _ _ _ _ _ _ _ (by first | rfl | trivial) HB5
              | false =>
                have hT : T = false := by rw [← hI]; rw [show offR ⟨zn, zt, zl, true⟩ = false from by show ((zt == 0) && _) = false; rw [ht2]; rfl]; rfl
                subst hT
                clear hI ht hl hq1 hq2
                go_wp2_with (first | go_skip | (go_at_call 97; (with_reducible refine (NI1.out _).mono ?_); rintro e w5 ⟨rfl, hb⟩; have hv5 := hb; obtain ⟨hc5, x5_1, x5_2, x5_3⟩ := HX.out _ rfl w5 hv5; have HB5 := Lib.hid hc5; clear hb hc5))
                exact HR.out _ _ _ _ _ _ _ _ _ _ _ _ _ _ _ _ _ _ _ _ _ _ _ _ _ _ _ _ _ _ _ _ _ _ _ _ _ _ _ _ _ _ _ _ _ _ _ _ _ _ _ _ _ _ _ _ _ _ _ _ _ _ _ _ _ _ (by first | rfl | trivial) HB5
            | false =>
              cases q2 with
              | true =>
                have hT : T = false := by rw [← hI]; rw [show offR ⟨zn, zt, zl, true⟩ = false from by show ((zt == 0) && _) = false; rw [ht2]; rfl]; rfl
                subst hT
                clear hI ht hl hq1 hq2
                go_wp2_with (first | go_skip | (go_at_call 97; (with_reducible refine (NI1.out _).mono ?_); rintro e w5 ⟨rfl, hb⟩; have hv5 := hb; obtain ⟨hc5, x5_1, x5_2, x5_3⟩ := HX.out _ rfl w5 hv5; have HB5 := Lib.hid hc5; clear hb hc5))
                exact HR.out _ _ _ _ _ _ _ _ _ _ _ _ _ _ _ _ _ _ _ _ _ _ _ _ _ _ _ _ _ _ _ _ _ _ _ _ _ _ _ _ _ _ _ _ _ _ _ _ _ _ _ _ _ _ _ _ _ _ _ _ _ _ _ _ _ _ (by first | rfl | trivial) HB5
              | false =>
                have hT : T = false := by rw [← hI]; rw [show offR ⟨zn, zt, zl, true⟩ = false from by show ((zt == 0) && _) = false; rw [ht2]; rfl]; rfl
                subst hT
                clear hI ht hl hq1 hq2
                go_wp2_with (first | go_skip | (go_at_call 97; (with_reducible refine (NI1.out _).mono ?_); rintro e w5 ⟨rfl, hb⟩; have hv5 := hb; obtain ⟨hc5, x5_1, x5_2, x5_3⟩ := HX.out _ rfl w5 hv5; have HB5 := Lib.hid hc5; clear hb hc5))
                exact HR.out _ _ _ _ _ _ _ _ _ _ _ _ _ _ _ _ _ _ _ _ _ _ _ _ _ _ _ _ _ _ _ _ _ _ _ _ _ _ _ _ _ _ _ _ _ _ _ _ _ _ _ _ _ _ _ _ _ _ _ _ _ _ _ _ _ _ (by first | rfl | trivial) HB5
      | false =>
        by_cases ht : zt = 0
        · subst ht
          obtain rfl : q1 = true := by rw [← hq1]; rfl
          by_cases hl : zl = 0
          · subst hl
            obtain rfl : q2 = false := by rw [← hq2]; rfl
            have HI2 : Hid ((l.drop (j + 1)).all offR = T) := Lib.hid (by rw [← hI]; rw [show offR ⟨zn, 0, 0, false⟩ = true from (show offR ⟨zn, 0, 0, false⟩ = inI 0 68719476736 0 from rfl).trans hq1]; rfl)
            clear hI hq1 hq2
            go_wp2_with (first | go_skip | (go_at_call 97; (with_reducible refine (NI1.out _).mono ?_); rintro e w5 ⟨rfl, hb⟩; have hv5 := hb; obtain ⟨hc5, x5_1, x5_2, x5_3⟩ := HX.out _ rfl w5 hv5; have HB5 := Lib.hid hc5; clear hb hc5) | (go_at_call 97; (with_reducible refine (NI2.out _).mono ?_); rintro e w6 ⟨rfl, hb⟩; have hv6 := hv5.trans (hb.mono hv5.size); obtain ⟨hc6, x6_1, x6_2, x6_3⟩ := HX.out _ rfl w6 hv6; have HB6 := Lib.hid hc6; clear hb hc6))
            go_round
            case rel => exact ⟨j + 1, by omega, by go_num, HI2, HB6⟩
            case measure => simp [intOf]; omega
          · have hl2 : (zl == 0) = false := by simpa using hl
            cases q2 with
            | true =>
              have HI2 : Hid ((l.drop (j + 1)).all offR = T) := Lib.hid (by rw [← hI]; rw [show offR ⟨zn, 0, zl, false⟩ = true from by show (if zl ≠ 0 then (inI 1 64 zl && ((0 : Int) == 0)) else _) = _; rw [if_pos hl, hq2]; rfl]; rfl)
              clear hI hl hq1 hq2
              go_wp2_with (first | go_skip | (go_at_call 97; (with_reducible refine (NI1.out _).mono ?_); rintro e w5 ⟨rfl, hb⟩; have hv5 := hb; obtain ⟨hc5, x5_1, x5_2, x5_3⟩ := HX.out _ rfl w5 hv5; have HB5 := Lib.hid hc5; clear hb hc5) | (go_at_call 97; (with_reducible refine (NI2.out _).mono ?_); rintro e w6 ⟨rfl, hb⟩; have hv6 := hv5.trans (hb.mono hv5.size); obtain ⟨hc6, x6_1, x6_2, x6_3⟩ := HX.out _ rfl w6 hv6; have HB6 := Lib.hid hc6; clear hb hc6))
              go_round
              case rel => exact ⟨j + 1, by omega, by go_num, HI2, HB6⟩
              case measure => simp [intOf]; omega
            | false =>
              have hT : T = false := by rw [← hI]; rw [show offR ⟨zn, 0, zl, false⟩ = false from by show (if zl ≠ 0 then (inI 1 64 zl && ((0 : Int) == 0)) else _) = _; rw [if_pos hl, hq2]; rfl]; rfl
              subst hT
              clear hI hl hq1 hq2
              go_wp2_with (first | go_skip | (go_at_call 97; (with_reducible refine (NI1.out _).mono ?_); rintro e w5 ⟨rfl, hb⟩; have hv5 := hb; obtain ⟨hc5, x5_1, x5_2, x5_3⟩ := HX.out _ rfl w5 hv5; have HB5 := Lib.hid hc5; clear hb hc5) | (go_at_call 97; (with_reducible refine (NI2.out _).mono ?_); rintro e w6 ⟨rfl, hb⟩; have hv6 := hv5.trans (hb.mono hv5.size); obtain ⟨hc6, x6_1, x6_2, x6_3⟩ := HX.out _ rfl w6 hv6; have HB6 := Lib.hid hc6; clear hb hc6))
              exact HR.out _ _ _ _ _ _ _ _ _ _ _ _ _ _ _ _ _ _ _ _ _ _ _ _ _ _ _ _ _ _ _ _ _ _ _ _ _ _ _ _ _ _ _ _ _ _ _ _ _ _ _ _ _ _ _ _ _ _ _ _ _ _ _ _ _ _ (by first | rfl | trivial) HB6
        · have ht2 : (zt == 0) = false := by simpa using ht
          by_cases hl : zl = 0
          · subst hl
            obtain rfl : q2 = false := by rw [← hq2]; rfl
            cases q1 with
            | true =>
              have HI2 : Hid ((l.drop (j + 1)).all offR = T) := Lib.hid (by rw [← hI]; rw [show offR ⟨zn, zt, 0, false⟩ = true from (show offR ⟨zn, zt, 0, false⟩ = inI 0 68719476736 zt from rfl).trans hq1]; rfl)
              clear hI ht hq1 hq2
              go_wp2_with (first | go_skip | (go_at_call 97; (with_reducible refine (NI1.out _).mono ?_); rintro e w5 ⟨rfl, hb⟩; have hv5 := hb; obtain ⟨hc5, x5_1, x5_2, x5_3⟩ := HX.out _ rfl w5 hv5; have HB5 := Lib.hid hc5; clear hb hc5))
              go_round
              case rel => exact ⟨j + 1, by omega, by go_num, HI2, HB5⟩
              case measure => simp [intOf]; omega
            | false =>
              have hT : T = false := by rw [← hI]; rw [show offR ⟨zn, zt, 0, false⟩ = false from (show offR ⟨zn, zt, 0, false⟩ = inI 0 68719476736 zt from rfl).trans hq1]; rfl
              subst hT
              clear hI ht hq1 hq2
              go_wp2_with (first | go_skip | (go_at_call 97; (with_reducible refine (NI1.out _).mono ?_); rintro e w5 ⟨rfl, hb⟩; have hv5 := hb; obtain ⟨hc5, x5_1, x5_2, x5_3⟩ := HX.out _ rfl w5 hv5; have HB5 := Lib.hid hc5; clear hb hc5))
              exact HR.out _ _ _ _ _ _ _ _ _ _ _ _ _ _ _ _ _ _ _ _ _ _ _ _ _ _ _ _ _ _ _ _ _ _ _ _ _ _ _ _ _ _ _ _ _ _ _ _ _ _ _ _ _ _ _ _ _ _ _ _ _ _ _ _ _ _ (by first | rfl | trivial) HB5
          · have hl2 : (zl == 0) = false := by simpa using hl
            cases q1 with
            | true =>
              cases q2 with
              | true =>
                have hT : T = false := by rw [← hI]; rw [show offR ⟨zn, zt, zl, false⟩ = false from by show (if zl ≠ 0 then (inI 1 64 zl && (zt == 0)) else _) = _; rw [if_pos hl, hq2, ht2]; rfl]; rfl
                subst hT
                clear hI ht hl hq1 hq2
                go_wp2_with (first | go_skip | (go_at_call 97; (with_reducible refine (NI1.out _).mono ?_); rintro e w5 ⟨rfl, hb⟩; have hv5 := hb; obtain ⟨hc5, x5_1, x5_2, x5_3⟩ := HX.out _ rfl w5 hv5; have HB5 := Lib.hid hc5; clear hb hc5))
                exact HR.out _ _ _ _ _ _ _ _ _ _ _ _ _ _ _ _ _ _ _ _ _ _ _ _ _ _ _ _ _ _ _ _ _ _ _ _ _ _ _ _ _ _ _ _ _ _ _ _ _ _ _ _ _ _ _ _ _ _ _ _ _ _ _ _ _ _ (by first | rfl | trivial) HB5
              | false =>
                have hT : T = false := by rw [← hI]; rw [show offR ⟨zn, zt, zl, false⟩ = false from by show (if zl ≠ 0 then (inI 1 64 zl && (zt == 0)) else _) = _; rw [if_pos hl, hq2, ht2]; rfl]; rfl
                subst hT
                clear hI ht hl hq1 hq2
                go_wp2_with (first | go_skip | (go_at_call 97; (with_reducible refine (NI1.out _).mono ?_); rintro e w5 ⟨rfl, hb⟩; have hv5 := hb; obtain ⟨hc5, x5_1, x5_2, x5_3⟩ := HX.out _ rfl w5 hv5; have HB5 := Lib.hid hc5; clear hb hc5))
                exact HR.out _ _ _ _ _ _ _ _ _ _ _ _ _ _ _ _ _ _ _ _ _ _ _ _ _ _ _ _ _ _ _ _ _ _ _ _ _ _ _ _ _ _ _ _ _ _ _ _ _ _ _ _ _ _ _ _ _ _ _ _ _ _ _ _ _ _ (by first | rfl | trivial) HB5
            | false =>
              cases q2 with
              | true =>
                have hT : T = false := by rw [← hI]; rw [show offR ⟨zn, zt, zl, false⟩ = false from by show (if zl ≠ 0 then (inI 1 64 zl && (zt == 0)) else _) = _; rw [if_pos hl, hq2, ht2]; rfl]; rfl
                subst hT
                clear hI ht hl hq1 hq2
                go_wp2_with (first | go_skip | (go_at_call 97; (with_reducible refine (NI1.out _).mono ?_); rintro e w5 ⟨rfl, hb⟩; have hv5 := hb; obtain ⟨hc5, x5_1, x5_2, x5_3⟩ := HX.out _ rfl w5 hv5; have HB5 := Lib.hid hc5; clear hb hc5))
                exact HR.out _ _ _ _ _ _ _ _ _ _ _ _ _ _ _ _ _ _ _ _ _ _ _ _ _ _ _ _ _ _ _ _ _ _ _ _ _ _ _ _ _ _ _ _ _ _ _ _ _ _ _ _ _ _ _ _ _ _ _ _ _ _ _ _ _ _ (by first | rfl | trivial) HB5
              | false =>
                have hT : T = false := by rw [← hI]; rw [show offR ⟨zn, zt, zl, false⟩ = false from by show (if zl ≠ 0 then (inI 1 64 zl && (zt == 0)) else _) = _; rw [if_pos hl, hq2, ht2]; rfl]; rfl
                subst hT
                clear hI ht hl hq1 hq2
                go_wp2_with (first | go_skip | (go_at_call 97; (with_reducible refine (NI1.out _).mono ?_); rintro e w5 ⟨rfl, hb⟩; have hv5 := hb; obtain ⟨hc5, x5_1, x5_2, x5_3⟩ := HX.out _ rfl w5 hv5; have HB5 := Lib.hid hc5; clear hb hc5))
                exact HR.out _ _ _ _ _ _ _ _ _ _ _ _ _ _ _ _ _ _ _ _ _ _ _ _ _ _ _ _ _ _ _ _ _ _ _ _ _ _ _ _ _ _ _ _ _ _ _ _ _ _ _ _ _ _ _ _ _ _ _ _ _ _ _ _ _ _ (by first | rfl | trivial) HB5
    · have hji : ¬ (j : Int) < (l.length : Int) := by omega
      have hT : T = true := by
        have := HI.out
        rw [List.drop_of_length_le (by omega)] at this
        exact this.symm
      subst hT
      clear HE HI
      go_wp2_with fail
      exact HQ.out _ _ _ _ _ _ _ _ _ _ _ _ _ _ _ _ _ _ _ _ _ _ _ _ _ _ _ _ _ _ _ _ _ _ _ _ _ _ _ _ _ _ _ _ _ _ _ _ _ _ _ _ _ _ _ _ _ _ _ _ _ _ _ _ _ _ _ (by first | rfl | trivial) HB
end Go.Proofs.YtabdgnigmlpeaaaGreatDoor
