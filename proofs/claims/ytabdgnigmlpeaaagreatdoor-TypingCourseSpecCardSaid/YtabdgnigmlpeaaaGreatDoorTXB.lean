/- The specification's ranges: block 0. -/
import Derived.Test.YtabdgnigmlpeaaaGreatDoorTXQ
namespace Go.Proofs.YtabdgnigmlpeaaaGreatDoor
open Go.RowKit

set_option maxHeartbeats 32000000 in
set_option maxRecDepth 100000 in
theorem rqA_any {Q : Exit → Act → World → Prop} {A : World} {B : Nat} (wr : World) {l : List MatD} {p : Option Addr} {cap b off : Nat} (hl : l.length ≤ 1000)
    (HF : Hid (∀ w', Below A.heap.size A w' → w'.cell? ⟨B, 1, none⟩ = some (.slice p l.length cap))) (HE : Hid (∀ w', Below A.heap.size A w' → ∀ j (h : j < l.length), p = some ⟨b, off, none⟩ ∧ w'.cell? ⟨b, off + j * 2 + 1, none⟩ = some (.int .i64 l[j].k)))
    {u0 u4 u5 u6 u7 u8 u9 u10 u11 u12 u13 u14 u15 u16 u17 u18 u19 u20 u36 u37 u38 u39 u40 u41 u42 u43 u44 u45 u46 u47 u48 u49 u50 u51 u52 u53 u54 u55 u56 u57 u58 u59 u60 u61 u62 u63 u64 u65 u66 u67 u68 u69 u70 u71 u72 u73 u74 u75 u76 u77 u78 u79 u80 u81 u82 u83 u84 u85 u86 u87 u88 u89 u90 u91 u92 u93 u94 u95 u96 u97 u98 u99 u100 u101 u102 u103 u104 u105 u106 u107 u108 u109 u110 u111 u112 u113 u114 u115 u116 u117 u118 u119 u120 u121 u122 u123 u124 u125 u126 u127 u128 u129 u130 u131 u132 u133 u134 u135 u136 u137 u138 u139 u140 u141 u142 u143 u144 u145 u146 u147 u148 u149 u150 u151 u152 u153 u154 u155 u156 u157 u158 u159 u160 u161 u162 u163 u164 u165 u166 u167 u168 u169 u170 u171 u172 u173 u174 u175 u176 u177 u178 u179 u180 u181 u182 u183 u184 u185 u186 u187 u188 u189 u190 u191 u192 u193 u194 u195 u196 u197 u198 u199 u200 u201 u202 u203 u204 u205 u206 u207 u208 u209 u210 u211 u212 u213 u214 u215 u216 u217 u218 u219 u220 u221 u222 u223 u224 u225 u226 u227 u228 u229 u230 u231 u232 u233 u234 u235 u236 u237 u238 u239 u240 u241 u242 u243 u244 u245 u246 u247 u248 u249 u250 u251 u252 u253 u254 u255 u256 u257 u258 u259 u260 u261 u262 u263 u264 u265 u266 u267 u268 u269 u270 u271 u272 u273 u274 u275 u276 u277 u278 u279 u280 u281 u282 u283 u284 u285 u286 u287 u288 u289 u290 u291 u292 u293 u294 u295 u296 u297 u298 u299 u300 u301 u302 u303 u304 u305 u306 u307 u308 u309 u310 u311 u312 u313 u314 u315 u316 u317 u318 u319 u320 u321 u322 u323 u324 u2 y21 y22 y23 y24 y25 y26 y27 y28 y29 y30 y31 y32 y33 y34 y35 : Value}
    (hQ : ∀ (z2 z3 z21 z22 z23 z24 z25 z26 z27 z28 z29 z30 z31 z32 z33 z34 z35 : Value) (w' : World), l.all matR = true → Hid (Below A.heap.size A w') → Q .normal ⟨#[u0, .pointer (some ⟨B, 0, none⟩), z2, z3, u4, u5, u6, u7, u8, u9, u10, u11, u12, u13, u14, u15, u16, u17, u18, u19, u20, z21, z22, z23, z24, z25, z26, z27, z28, z29, z30, z31, z32, z33, z34, z35, u36, u37, u38, u39, u40, u41, u42, u43, u44, u45, u46, u47, u48, u49, u50, u51, u52, u53, u54, u55, u56, u57, u58, u59, u60, u61, u62, u63, u64, u65, u66, u67, u68, u69, u70, u71, u72, u73, u74, u75, u76, u77, u78, u79, u80, u81, u82, u83, u84, u85, u86, u87, u88, u89, u90, u91, u92, u93, u94, u95, u96, u97, u98, u99, u100, u101, u102, u103, u104, u105, u106, u107, u108, u109, u110, u111, u112, u113, u114, u115, u116, u117, u118, u119, u120, u121, u122, u123, u124, u125, u126, u127, u128, u129, u130, u131, u132, u133, u134, u135, u136, u137, u138, u139, u140, u141, u142, u143, u144, u145, u146, u147, u148, u149, u150, u151, u152, u153, u154, u155, u156, u157, u158, u159, u160, u161, u162, u163, u164, u165, u166, u167, u168, u169, u170, u171, u172, u173, u174, u175, u176, u177, u178, u179, u180, u181, u182, u183, u184, u185, u186, u187, u188, u189, u190, u191, u192, u193, u194, u195, u196, u197, u198, u199, u200, u201, u202, u203, u204, u205, u206, u207, u208, u209, u210, u211, u212, u213, u214, u215, u216, u217, u218, u219, u220, u221, u222, u223, u224, u225, u226, u227, u228, u229, u230, u231, u232, u233, u234, u235, u236, u237, u238, u239, u240, u241, u242, u243, u244, u245, u246, u247, u248, u249, u250, u251, u252, u253, u254, u255, u256, u257, u258, u259, u260, u261, u262, u263, u264, u265, u266, u267, u268, u269, u270, u271, u272, u273, u274, u275, u276, u277, u278, u279, u280, u281, u282, u283, u284, u285, u286, u287, u288, u289, u290, u291, u292, u293, u294, u295, u296, u297, u298, u299, u300, u301, u302, u303, u304, u305, u306, u307, u308, u309, u310, u311, u312, u313, u314, u315, u316, u317, u318, u319, u320, u321, u322, u323, u324], []⟩ w')
    (hR : ∀ (z3 z21 z22 z23 z24 z25 z26 z27 z28 z29 z30 z31 z32 z33 z34 z35 : Value) (w' : World), l.all matR = false → Hid (Below A.heap.size A w') → Q .ret ⟨#[u0, .pointer (some ⟨B, 0, none⟩), .bool false, z3, u4, u5, u6, u7, u8, u9, u10, u11, u12, u13, u14, u15, u16, u17, u18, u19, u20, z21, z22, z23, z24, z25, z26, z27, z28, z29, z30, z31, z32, z33, z34, z35, u36, u37, u38, u39, u40, u41, u42, u43, u44, u45, u46, u47, u48, u49, u50, u51, u52, u53, u54, u55, u56, u57, u58, u59, u60, u61, u62, u63, u64, u65, u66, u67, u68, u69, u70, u71, u72, u73, u74, u75, u76, u77, u78, u79, u80, u81, u82, u83, u84, u85, u86, u87, u88, u89, u90, u91, u92, u93, u94, u95, u96, u97, u98, u99, u100, u101, u102, u103, u104, u105, u106, u107, u108, u109, u110, u111, u112, u113, u114, u115, u116, u117, u118, u119, u120, u121, u122, u123, u124, u125, u126, u127, u128, u129, u130, u131, u132, u133, u134, u135, u136, u137, u138, u139, u140, u141, u142, u143, u144, u145, u146, u147, u148, u149, u150, u151, u152, u153, u154, u155, u156, u157, u158, u159, u160, u161, u162, u163, u164, u165, u166, u167, u168, u169, u170, u171, u172, u173, u174, u175, u176, u177, u178, u179, u180, u181, u182, u183, u184, u185, u186, u187, u188, u189, u190, u191, u192, u193, u194, u195, u196, u197, u198, u199, u200, u201, u202, u203, u204, u205, u206, u207, u208, u209, u210, u211, u212, u213, u214, u215, u216, u217, u218, u219, u220, u221, u222, u223, u224, u225, u226, u227, u228, u229, u230, u231, u232, u233, u234, u235, u236, u237, u238, u239, u240, u241, u242, u243, u244, u245, u246, u247, u248, u249, u250, u251, u252, u253, u254, u255, u256, u257, u258, u259, u260, u261, u262, u263, u264, u265, u266, u267, u268, u269, u270, u271, u272, u273, u274, u275, u276, u277, u278, u279, u280, u281, u282, u283, u284, u285, u286, u287, u288, u289, u290, u291, u292, u293, u294, u295, u296, u297, u298, u299, u300, u301, u302, u303, u304, u305, u306, u307, u308, u309, u310, u311, u312, u313, u314, u315, u316, u317, u318, u319, u320, u321, u322, u323, u324], []⟩ w') (HB0 : Hid (Below A.heap.size A wr)) :
    Code.wp Tryz.prog (rgB 0) Q ⟨#[u0, .pointer (some ⟨B, 0, none⟩), u2, .int .i64 0, u4, u5, u6, u7, u8, u9, u10, u11, u12, u13, u14, u15, u16, u17, u18, u19, u20, y21, y22, y23, y24, y25, y26, y27, y28, y29, y30, y31, y32, y33, y34, y35, u36, u37, u38, u39, u40, u41, u42, u43, u44, u45, u46, u47, u48, u49, u50, u51, u52, u53, u54, u55, u56, u57, u58, u59, u60, u61, u62, u63, u64, u65, u66, u67, u68, u69, u70, u71, u72, u73, u74, u75, u76, u77, u78, u79, u80, u81, u82, u83, u84, u85, u86, u87, u88, u89, u90, u91, u92, u93, u94, u95, u96, u97, u98, u99, u100, u101, u102, u103, u104, u105, u106, u107, u108, u109, u110, u111, u112, u113, u114, u115, u116, u117, u118, u119, u120, u121, u122, u123, u124, u125, u126, u127, u128, u129, u130, u131, u132, u133, u134, u135, u136, u137, u138, u139, u140, u141, u142, u143, u144, u145, u146, u147, u148, u149, u150, u151, u152, u153, u154, u155, u156, u157, u158, u159, u160, u161, u162, u163, u164, u165, u166, u167, u168, u169, u170, u171, u172, u173, u174, u175, u176, u177, u178, u179, u180, u181, u182, u183, u184, u185, u186, u187, u188, u189, u190, u191, u192, u193, u194, u195, u196, u197, u198, u199, u200, u201, u202, u203, u204, u205, u206, u207, u208, u209, u210, u211, u212, u213, u214, u215, u216, u217, u218, u219, u220, u221, u222, u223, u224, u225, u226, u227, u228, u229, u230, u231, u232, u233, u234, u235, u236, u237, u238, u239, u240, u241, u242, u243, u244, u245, u246, u247, u248, u249, u250, u251, u252, u253, u254, u255, u256, u257, u258, u259, u260, u261, u262, u263, u264, u265, u266, u267, u268, u269, u270, u271, u272, u273, u274, u275, u276, u277, u278, u279, u280, u281, u282, u283, u284, u285, u286, u287, u288, u289, u290, u291, u292, u293, u294, u295, u296, u297, u298, u299, u300, u301, u302, u303, u304, u305, u306, u307, u308, u309, u310, u311, u312, u313, u314, u315, u316, u317, u318, u319, u320, u321, u322, u323, u324], []⟩ wr := by
  have NI : Hid (∀ a lo hi W, Calls Tryz.prog 97 #[.int .i64 a, .int .i64 lo, .int .i64 hi] W fun e w' => e = .returned (.bool (inI lo hi a)) ∧ Below W.heap.size W w') := Lib.hid fun a lo hi W => rbet_any a lo hi W
  obtain ⟨T, hT⟩ : ∃ T, l.all matR = T := ⟨_, rfl⟩
  rw [hT] at hQ hR
  have H0 : Hid ((l.drop 0).all matR = T) := Lib.hid (by rw [List.drop_zero]; exact hT)
  clear hT
  have HQ := Lib.hid hQ
  have HR := Lib.hid hR
  clear hQ hR
  conv => arg 2; whnf
  dsimp only
  go_wp2_with fail
  go_loopw [3] (fun i wr => ∃ j : Nat, j ≤ l.length ∧ i = .int .i64 j ∧ Hid ((l.drop j).all matR = T) ∧ Hid (Below A.heap.size A wr)) (fun i _ => l.length - (intOf i).toNat)
  case atStart => exact ⟨0, Nat.zero_le _, rfl, H0, HB0⟩
  case round =>
    obtain ⟨j, hj, rfl, HI, HB⟩ := hrel
    clear H0 HB0
    have f1 := HF.out _ HB.out
    by_cases hlt : j < l.length
    · have hji : (j : Int) < (l.length : Int) := by omega
      obtain ⟨rfl, a0⟩ := HE.out _ HB.out j hlt
      have hI := HI.out
      rw [(List.getElem_cons_drop hlt).symm, List.all_cons] at hI
      have NI0 := Lib.hid (NI.out l[j].k 1 3)
      have hm : matR l[j] = inI 1 3 l[j].k := rfl
      rw [hm] at hI
      clear HE HI NI hm
      generalize inI 1 3 l[j].k = q at *
      generalize l[j].k = x at *
      cases q with
      | false =>
        have hT : T = false := by rw [← hI]; rfl
        subst hT
        clear hI
        go_wp2_with (go_at_call 97; (with_reducible refine (NI0.out _).mono ?_); rintro e w5 ⟨rfl, hb⟩; have HB5 := Lib.hid (HB.out.trans (hb.mono HB.out.size)); clear hb)
        exact HR.out _ _ _ _ _ _ _ _ _ _ _ _ _ _ _ _ _ (by first | rfl | trivial) HB5
      | true =>
        have HI2 : Hid ((l.drop (j + 1)).all matR = T) := Lib.hid (by rw [← hI]; rfl)
        clear hI
        go_wp2_with (go_at_call 97; (with_reducible refine (NI0.out _).mono ?_); rintro e w5 ⟨rfl, hb⟩; have HB5 := Lib.hid (HB.out.trans (hb.mono HB.out.size)); clear hb)
        go_round
        case rel => exact ⟨j + 1, by omega, by go_num, HI2, HB5⟩
        case measure => simp [intOf]; omega
    · have hji : ¬ (j : Int) < (l.length : Int) := by omega
      have hT : T = true := by
        have := HI.out
        rw [List.drop_of_length_le (by omega)] at this
        exact this.symm
      subst hT
      clear HE HI
      go_wp2_with fail
      exact HQ.out _ _ _ _ _ _ _ _ _ _ _ _ _ _ _ _ _ _ (by first | rfl | trivial) HB
end Go.Proofs.YtabdgnigmlpeaaaGreatDoor
/- The specification's ranges: block 8. -/
namespace Go.Proofs.YtabdgnigmlpeaaaGreatDoor
open Go.RowKit

set_option maxHeartbeats 32000000 in
set_option maxRecDepth 100000 in
theorem rqB_any {Q : Exit → Act → World → Prop} {A : World} {B : Nat} (wr : World) {l : List WaveD} {p : Option Addr} {cap b off : Nat} (hl : l.length ≤ 1000)
    (HF : Hid (∀ w', Below A.heap.size A w' → w'.cell? ⟨B, 4, none⟩ = some (.slice p l.length cap))) (HE : Hid (∀ w', Below A.heap.size A w' → ∀ j (h : j < l.length), p = some ⟨b, off, none⟩ ∧ w'.cell? ⟨b, off + j * 2 + 1, none⟩ = some (.int .i64 l[j].g)))
    {u0 u3 u4 u5 u6 u7 u9 u10 u11 u12 u13 u14 u15 u16 u17 u18 u19 u20 u21 u22 u23 u24 u25 u26 u27 u28 u29 u30 u31 u32 u33 u34 u35 u36 u37 u38 u39 u40 u41 u42 u43 u44 u45 u46 u47 u48 u49 u50 u51 u52 u53 u54 u55 u56 u57 u58 u59 u60 u61 u62 u63 u64 u65 u66 u67 u68 u69 u70 u71 u72 u73 u74 u75 u76 u77 u78 u79 u80 u81 u82 u83 u84 u85 u86 u87 u88 u89 u90 u91 u92 u93 u94 u95 u96 u97 u98 u99 u100 u101 u102 u103 u104 u105 u106 u107 u108 u109 u110 u111 u112 u113 u114 u115 u116 u132 u133 u134 u135 u136 u137 u138 u139 u140 u141 u142 u143 u144 u145 u146 u147 u148 u149 u150 u151 u152 u153 u154 u155 u156 u157 u158 u159 u160 u161 u162 u163 u164 u165 u166 u167 u168 u169 u170 u171 u172 u173 u174 u175 u176 u177 u178 u179 u180 u181 u182 u183 u184 u185 u186 u187 u188 u189 u190 u191 u192 u193 u194 u195 u196 u197 u198 u199 u200 u201 u202 u203 u204 u205 u206 u207 u208 u209 u210 u211 u212 u213 u214 u215 u216 u217 u218 u219 u220 u221 u222 u223 u224 u225 u226 u227 u228 u229 u230 u231 u232 u233 u234 u235 u236 u237 u238 u239 u240 u241 u242 u243 u244 u245 u246 u247 u248 u249 u250 u251 u252 u253 u254 u255 u256 u257 u258 u259 u260 u261 u262 u263 u264 u265 u266 u267 u268 u269 u270 u271 u272 u273 u274 u275 u276 u277 u278 u279 u280 u281 u282 u283 u284 u285 u286 u287 u288 u289 u290 u291 u292 u293 u294 u295 u296 u297 u298 u299 u300 u301 u302 u303 u304 u305 u306 u307 u308 u309 u310 u311 u312 u313 u314 u315 u316 u317 u318 u319 u320 u321 u322 u323 u324 u2 y117 y118 y119 y120 y121 y122 y123 y124 y125 y126 y127 y128 y129 y130 y131 : Value}
    (hQ : ∀ (z2 z8 z117 z118 z119 z120 z121 z122 z123 z124 z125 z126 z127 z128 z129 z130 z131 : Value) (w' : World), l.all waveR = true → Hid (Below A.heap.size A w') → Q .normal ⟨#[u0, .pointer (some ⟨B, 0, none⟩), z2, u3, u4, u5, u6, u7, z8, u9, u10, u11, u12, u13, u14, u15, u16, u17, u18, u19, u20, u21, u22, u23, u24, u25, u26, u27, u28, u29, u30, u31, u32, u33, u34, u35, u36, u37, u38, u39, u40, u41, u42, u43, u44, u45, u46, u47, u48, u49, u50, u51, u52, u53, u54, u55, u56, u57, u58, u59, u60, u61, u62, u63, u64, u65, u66, u67, u68, u69, u70, u71, u72, u73, u74, u75, u76, u77, u78, u79, u80, u81, u82, u83, u84, u85, u86, u87, u88, u89, u90, u91, u92, u93, u94, u95, u96, u97, u98, u99, u100, u101, u102, u103, u104, u105, u106, u107, u108, u109, u110, u111, u112, u113, u114, u115, u116, z117, z118, z119, z120, z121, z122, z123, z124, z125, z126, z127, z128, z129, z130, z131, u132, u133, u134, u135, u136, u137, u138, u139, u140, u141, u142, u143, u144, u145, u146, u147, u148, u149, u150, u151, u152, u153, u154, u155, u156, u157, u158, u159, u160, u161, u162, u163, u164, u165, u166, u167, u168, u169, u170, u171, u172, u173, u174, u175, u176, u177, u178, u179, u180, u181, u182, u183, u184, u185, u186, u187, u188, u189, u190, u191, u192, u193, u194, u195, u196, u197, u198, u199, u200, u201, u202, u203, u204, u205, u206, u207, u208, u209, u210, u211, u212, u213, u214, u215, u216, u217, u218, u219, u220, u221, u222, u223, u224, u225, u226, u227, u228, u229, u230, u231, u232, u233, u234, u235, u236, u237, u238, u239, u240, u241, u242, u243, u244, u245, u246, u247, u248, u249, u250, u251, u252, u253, u254, u255, u256, u257, u258, u259, u260, u261, u262, u263, u264, u265, u266, u267, u268, u269, u270, u271, u272, u273, u274, u275, u276, u277, u278, u279, u280, u281, u282, u283, u284, u285, u286, u287, u288, u289, u290, u291, u292, u293, u294, u295, u296, u297, u298, u299, u300, u301, u302, u303, u304, u305, u306, u307, u308, u309, u310, u311, u312, u313, u314, u315, u316, u317, u318, u319, u320, u321, u322, u323, u324], []⟩ w')
    (hR : ∀ (z8 z117 z118 z119 z120 z121 z122 z123 z124 z125 z126 z127 z128 z129 z130 z131 : Value) (w' : World), l.all waveR = false → Hid (Below A.heap.size A w') → Q .ret ⟨#[u0, .pointer (some ⟨B, 0, none⟩), .bool false, u3, u4, u5, u6, u7, z8, u9, u10, u11, u12, u13, u14, u15, u16, u17, u18, u19, u20, u21, u22, u23, u24, u25, u26, u27, u28, u29, u30, u31, u32, u33, u34, u35, u36, u37, u38, u39, u40, u41, u42, u43, u44, u45, u46, u47, u48, u49, u50, u51, u52, u53, u54, u55, u56, u57, u58, u59, u60, u61, u62, u63, u64, u65, u66, u67, u68, u69, u70, u71, u72, u73, u74, u75, u76, u77, u78, u79, u80, u81, u82, u83, u84, u85, u86, u87, u88, u89, u90, u91, u92, u93, u94, u95, u96, u97, u98, u99, u100, u101, u102, u103, u104, u105, u106, u107, u108, u109, u110, u111, u112, u113, u114, u115, u116, z117, z118, z119, z120, z121, z122, z123, z124, z125, z126, z127, z128, z129, z130, z131, u132, u133, u134, u135, u136, u137, u138, u139, u140, u141, u142, u143, u144, u145, u146, u147, u148, u149, u150, u151, u152, u153, u154, u155, u156, u157, u158, u159, u160, u161, u162, u163, u164, u165, u166, u167, u168, u169, u170, u171, u172, u173, u174, u175, u176, u177, u178, u179, u180, u181, u182, u183, u184, u185, u186, u187, u188, u189, u190, u191, u192, u193, u194, u195, u196, u197, u198, u199, u200, u201, u202, u203, u204, u205, u206, u207, u208, u209, u210, u211, u212, u213, u214, u215, u216, u217, u218, u219, u220, u221, u222, u223, u224, u225, u226, u227, u228, u229, u230, u231, u232, u233, u234, u235, u236, u237, u238, u239, u240, u241, u242, u243, u244, u245, u246, u247, u248, u249, u250, u251, u252, u253, u254, u255, u256, u257, u258, u259, u260, u261, u262, u263, u264, u265, u266, u267, u268, u269, u270, u271, u272, u273, u274, u275, u276, u277, u278, u279, u280, u281, u282, u283, u284, u285, u286, u287, u288, u289, u290, u291, u292, u293, u294, u295, u296, u297, u298, u299, u300, u301, u302, u303, u304, u305, u306, u307, u308, u309, u310, u311, u312, u313, u314, u315, u316, u317, u318, u319, u320, u321, u322, u323, u324], []⟩ w') (HB0 : Hid (Below A.heap.size A wr)) :
    Code.wp Tryz.prog (rgB 8) Q ⟨#[u0, .pointer (some ⟨B, 0, none⟩), u2, u3, u4, u5, u6, u7, .int .i64 0, u9, u10, u11, u12, u13, u14, u15, u16, u17, u18, u19, u20, u21, u22, u23, u24, u25, u26, u27, u28, u29, u30, u31, u32, u33, u34, u35, u36, u37, u38, u39, u40, u41, u42, u43, u44, u45, u46, u47, u48, u49, u50, u51, u52, u53, u54, u55, u56, u57, u58, u59, u60, u61, u62, u63, u64, u65, u66, u67, u68, u69, u70, u71, u72, u73, u74, u75, u76, u77, u78, u79, u80, u81, u82, u83, u84, u85, u86, u87, u88, u89, u90, u91, u92, u93, u94, u95, u96, u97, u98, u99, u100, u101, u102, u103, u104, u105, u106, u107, u108, u109, u110, u111, u112, u113, u114, u115, u116, y117, y118, y119, y120, y121, y122, y123, y124, y125, y126, y127, y128, y129, y130, y131, u132, u133, u134, u135, u136, u137, u138, u139, u140, u141, u142, u143, u144, u145, u146, u147, u148, u149, u150, u151, u152, u153, u154, u155, u156, u157, u158, u159, u160, u161, u162, u163, u164, u165, u166, u167, u168, u169, u170, u171, u172, u173, u174, u175, u176, u177, u178, u179, u180, u181, u182, u183, u184, u185, u186, u187, u188, u189, u190, u191, u192, u193, u194, u195, u196, u197, u198, u199, u200, u201, u202, u203, u204, u205, u206, u207, u208, u209, u210, u211, u212, u213, u214, u215, u216, u217, u218, u219, u220, u221, u222, u223, u224, u225, u226, u227, u228, u229, u230, u231, u232, u233, u234, u235, u236, u237, u238, u239, u240, u241, u242, u243, u244, u245, u246, u247, u248, u249, u250, u251, u252, u253, u254, u255, u256, u257, u258, u259, u260, u261, u262, u263, u264, u265, u266, u267, u268, u269, u270, u271, u272, u273, u274, u275, u276, u277, u278, u279, u280, u281, u282, u283, u284, u285, u286, u287, u288, u289, u290, u291, u292, u293, u294, u295, u296, u297, u298, u299, u300, u301, u302, u303, u304, u305, u306, u307, u308, u309, u310, u311, u312, u313, u314, u315, u316, u317, u318, u319, u320, u321, u322, u323, u324], []⟩ wr := by
  have NI : Hid (∀ a lo hi W, Calls Tryz.prog 97 #[.int .i64 a, .int .i64 lo, .int .i64 hi] W fun e w' => e = .returned (.bool (inI lo hi a)) ∧ Below W.heap.size W w') := Lib.hid fun a lo hi W => rbet_any a lo hi W
  obtain ⟨T, hT⟩ : ∃ T, l.all waveR = T := ⟨_, rfl⟩
  rw [hT] at hQ hR
  have H0 : Hid ((l.drop 0).all waveR = T) := Lib.hid (by rw [List.drop_zero]; exact hT)
  clear hT
  have HQ := Lib.hid hQ
  have HR := Lib.hid hR
  clear hQ hR
  conv => arg 2; whnf
  dsimp only
  go_wp2_with fail
  go_loopw [8] (fun i wr => ∃ j : Nat, j ≤ l.length ∧ i = .int .i64 j ∧ Hid ((l.drop j).all waveR = T) ∧ Hid (Below A.heap.size A wr)) (fun i _ => l.length - (intOf i).toNat)
  case atStart => exact ⟨0, Nat.zero_le _, rfl, H0, HB0⟩
  case round =>
    obtain ⟨j, hj, rfl, HI, HB⟩ := hrel
    clear H0 HB0
    have f1 := HF.out _ HB.out
    by_cases hlt : j < l.length
    · have hji : (j : Int) < (l.length : Int) := by omega
      obtain ⟨rfl, a0⟩ := HE.out _ HB.out j hlt
      have hI := HI.out
      rw [(List.getElem_cons_drop hlt).symm, List.all_cons] at hI
      have NI0 := Lib.hid (NI.out l[j].g 0 1099511627776)
      have hm : waveR l[j] = inI 0 1099511627776 l[j].g := rfl
      rw [hm] at hI
      clear HE HI NI hm
      generalize inI 0 1099511627776 l[j].g = q at *
      generalize l[j].g = x at *
      cases q with
      | false =>
        have hT : T = false := by rw [← hI]; rfl
        subst hT
        clear hI
        go_wp2_with (go_at_call 97; (with_reducible refine (NI0.out _).mono ?_); rintro e w5 ⟨rfl, hb⟩; have HB5 := Lib.hid (HB.out.trans (hb.mono HB.out.size)); clear hb)
        exact HR.out _ _ _ _ _ _ _ _ _ _ _ _ _ _ _ _ _ (by first | rfl | trivial) HB5
      | true =>
        have HI2 : Hid ((l.drop (j + 1)).all waveR = T) := Lib.hid (by rw [← hI]; rfl)
        clear hI
        go_wp2_with (go_at_call 97; (with_reducible refine (NI0.out _).mono ?_); rintro e w5 ⟨rfl, hb⟩; have HB5 := Lib.hid (HB.out.trans (hb.mono HB.out.size)); clear hb)
        go_round
        case rel => exact ⟨j + 1, by omega, by go_num, HI2, HB5⟩
        case measure => simp [intOf]; omega
    · have hji : ¬ (j : Int) < (l.length : Int) := by omega
      have hT : T = true := by
        have := HI.out
        rw [List.drop_of_length_le (by omega)] at this
        exact this.symm
      subst hT
      clear HE HI
      go_wp2_with fail
      exact HQ.out _ _ _ _ _ _ _ _ _ _ _ _ _ _ _ _ _ _ (by first | rfl | trivial) HB
end Go.Proofs.YtabdgnigmlpeaaaGreatDoor
/- The specification's ranges: block 12. -/
namespace Go.Proofs.YtabdgnigmlpeaaaGreatDoor
open Go.RowKit

set_option maxHeartbeats 32000000 in
set_option maxRecDepth 100000 in
theorem rqC_any {Q : Exit → Act → World → Prop} {A : World} {B : Nat} (wr : World) {l : List CatD} {p : Option Addr} {cap b off : Nat} (hl : l.length ≤ 1000)
    (HF : Hid (∀ w', Below A.heap.size A w' → w'.cell? ⟨B, 6, none⟩ = some (.slice p l.length cap))) (HE : Hid (∀ w', Below A.heap.size A w' → ∀ j (h : j < l.length), p = some ⟨b, off, none⟩ ∧ w'.cell? ⟨b, off + j * 3, none⟩ = some (.string l[j].n) ∧ w'.cell? ⟨b, off + j * 3 + 1, none⟩ = some (.int .i64 l[j].f) ∧ w'.cell? ⟨b, off + j * 3 + 2, none⟩ = some (.int .i64 l[j].t)))
    {u0 u3 u4 u5 u6 u7 u8 u9 u10 u11 u12 u13 u16 u17 u18 u19 u20 u21 u22 u23 u24 u25 u26 u27 u28 u29 u30 u31 u32 u33 u34 u35 u36 u37 u38 u39 u40 u41 u42 u43 u44 u45 u46 u47 u48 u49 u50 u51 u52 u53 u54 u55 u56 u57 u58 u59 u60 u61 u62 u63 u64 u65 u66 u67 u68 u69 u70 u71 u72 u73 u74 u75 u76 u77 u78 u79 u80 u81 u82 u83 u84 u85 u86 u87 u88 u89 u90 u91 u92 u93 u94 u95 u96 u97 u98 u99 u100 u101 u102 u103 u104 u105 u106 u107 u108 u109 u110 u111 u112 u113 u114 u115 u116 u117 u118 u119 u120 u121 u122 u123 u124 u125 u126 u127 u128 u129 u130 u131 u132 u133 u134 u135 u136 u137 u138 u139 u140 u141 u142 u143 u144 u145 u146 u147 u148 u149 u150 u151 u152 u153 u154 u155 u156 u157 u158 u159 u160 u161 u162 u163 u164 u165 u166 u167 u168 u169 u170 u171 u172 u173 u174 u175 u176 u177 u178 u179 u180 u181 u182 u183 u184 u185 u186 u187 u188 u189 u190 u191 u219 u220 u221 u222 u223 u224 u225 u226 u227 u228 u229 u230 u231 u232 u233 u234 u235 u236 u237 u238 u239 u240 u241 u242 u243 u244 u245 u246 u247 u248 u249 u250 u251 u252 u253 u254 u255 u256 u257 u258 u259 u260 u261 u262 u263 u264 u265 u266 u267 u268 u269 u270 u271 u272 u273 u274 u275 u276 u277 u278 u279 u280 u281 u282 u283 u284 u285 u286 u287 u288 u289 u290 u291 u292 u293 u294 u295 u296 u297 u298 u299 u300 u301 u302 u303 u304 u305 u306 u307 u308 u309 u310 u311 u312 u313 u314 u315 u316 u317 u318 u319 u320 u321 u322 u323 u324 u2 y15 y192 y193 y194 y195 y196 y197 y198 y199 y200 y201 y202 y203 y204 y205 y206 y207 y208 y209 y210 y211 y212 y213 y214 y215 y216 y217 y218 : Value}
    (hQ : ∀ (z2 z14 z15 z192 z193 z194 z195 z196 z197 z198 z199 z200 z201 z202 z203 z204 z205 z206 z207 z208 z209 z210 z211 z212 z213 z214 z215 z216 z217 z218 : Value) (w' : World), l.all catR = true → Hid (Below A.heap.size A w') → Q .normal ⟨#[u0, .pointer (some ⟨B, 0, none⟩), z2, u3, u4, u5, u6, u7, u8, u9, u10, u11, u12, u13, z14, z15, u16, u17, u18, u19, u20, u21, u22, u23, u24, u25, u26, u27, u28, u29, u30, u31, u32, u33, u34, u35, u36, u37, u38, u39, u40, u41, u42, u43, u44, u45, u46, u47, u48, u49, u50, u51, u52, u53, u54, u55, u56, u57, u58, u59, u60, u61, u62, u63, u64, u65, u66, u67, u68, u69, u70, u71, u72, u73, u74, u75, u76, u77, u78, u79, u80, u81, u82, u83, u84, u85, u86, u87, u88, u89, u90, u91, u92, u93, u94, u95, u96, u97, u98, u99, u100, u101, u102, u103, u104, u105, u106, u107, u108, u109, u110, u111, u112, u113, u114, u115, u116, u117, u118, u119, u120, u121, u122, u123, u124, u125, u126, u127, u128, u129, u130, u131, u132, u133, u134, u135, u136, u137, u138, u139, u140, u141, u142, u143, u144, u145, u146, u147, u148, u149, u150, u151, u152, u153, u154, u155, u156, u157, u158, u159, u160, u161, u162, u163, u164, u165, u166, u167, u168, u169, u170, u171, u172, u173, u174, u175, u176, u177, u178, u179, u180, u181, u182, u183, u184, u185, u186, u187, u188, u189, u190, u191, z192, z193, z194, z195, z196, z197, z198, z199, z200, z201, z202, z203, z204, z205, z206, z207, z208, z209, z210, z211, z212, z213, z214, z215, z216, z217, z218, u219, u220, u221, u222, u223, u224, u225, u226, u227, u228, u229, u230, u231, u232, u233, u234, u235, u236, u237, u238, u239, u240, u241, u242, u243, u244, u245, u246, u247, u248, u249, u250, u251, u252, u253, u254, u255, u256, u257, u258, u259, u260, u261, u262, u263, u264, u265, u266, u267, u268, u269, u270, u271, u272, u273, u274, u275, u276, u277, u278, u279, u280, u281, u282, u283, u284, u285, u286, u287, u288, u289, u290, u291, u292, u293, u294, u295, u296, u297, u298, u299, u300, u301, u302, u303, u304, u305, u306, u307, u308, u309, u310, u311, u312, u313, u314, u315, u316, u317, u318, u319, u320, u321, u322, u323, u324], []⟩ w')
    (hR : ∀ (z14 z15 z192 z193 z194 z195 z196 z197 z198 z199 z200 z201 z202 z203 z204 z205 z206 z207 z208 z209 z210 z211 z212 z213 z214 z215 z216 z217 z218 : Value) (w' : World), l.all catR = false → Hid (Below A.heap.size A w') → Q .ret ⟨#[u0, .pointer (some ⟨B, 0, none⟩), .bool false, u3, u4, u5, u6, u7, u8, u9, u10, u11, u12, u13, z14, z15, u16, u17, u18, u19, u20, u21, u22, u23, u24, u25, u26, u27, u28, u29, u30, u31, u32, u33, u34, u35, u36, u37, u38, u39, u40, u41, u42, u43, u44, u45, u46, u47, u48, u49, u50, u51, u52, u53, u54, u55, u56, u57, u58, u59, u60, u61, u62, u63, u64, u65, u66, u67, u68, u69, u70, u71, u72, u73, u74, u75, u76, u77, u78, u79, u80, u81, u82, u83, u84, u85, u86, u87, u88, u89, u90, u91, u92, u93, u94, u95, u96, u97, u98, u99, u100, u101, u102, u103, u104, u105, u106, u107, u108, u109, u110, u111, u112, u113, u114, u115, u116, u117, u118, u119, u120, u121, u122, u123, u124, u125, u126, u127, u128, u129, u130, u131, u132, u133, u134, u135, u136, u137, u138, u139, u140, u141, u142, u143, u144, u145, u146, u147, u148, u149, u150, u151, u152, u153, u154, u155, u156, u157, u158, u159, u160, u161, u162, u163, u164, u165, u166, u167, u168, u169, u170, u171, u172, u173, u174, u175, u176, u177, u178, u179, u180, u181, u182, u183, u184, u185, u186, u187, u188, u189, u190, u191, z192, z193, z194, z195, z196, z197, z198, z199, z200, z201, z202, z203, z204, z205, z206, z207, z208, z209, z210, z211, z212, z213, z214, z215, z216, z217, z218, u219, u220, u221, u222, u223, u224, u225, u226, u227, u228, u229, u230, u231, u232, u233, u234, u235, u236, u237, u238, u239, u240, u241, u242, u243, u244, u245, u246, u247, u248, u249, u250, u251, u252, u253, u254, u255, u256, u257, u258, u259, u260, u261, u262, u263, u264, u265, u266, u267, u268, u269, u270, u271, u272, u273, u274, u275, u276, u277, u278, u279, u280, u281, u282, u283, u284, u285, u286, u287, u288, u289, u290, u291, u292, u293, u294, u295, u296, u297, u298, u299, u300, u301, u302, u303, u304, u305, u306, u307, u308, u309, u310, u311, u312, u313, u314, u315, u316, u317, u318, u319, u320, u321, u322, u323, u324], []⟩ w') (HB0 : Hid (Below A.heap.size A wr)) :
    Code.wp Tryz.prog (rgB 12) Q ⟨#[u0, .pointer (some ⟨B, 0, none⟩), u2, u3, u4, u5, u6, u7, u8, u9, u10, u11, u12, u13, .int .i64 0, y15, u16, u17, u18, u19, u20, u21, u22, u23, u24, u25, u26, u27, u28, u29, u30, u31, u32, u33, u34, u35, u36, u37, u38, u39, u40, u41, u42, u43, u44, u45, u46, u47, u48, u49, u50, u51, u52, u53, u54, u55, u56, u57, u58, u59, u60, u61, u62, u63, u64, u65, u66, u67, u68, u69, u70, u71, u72, u73, u74, u75, u76, u77, u78, u79, u80, u81, u82, u83, u84, u85, u86, u87, u88, u89, u90, u91, u92, u93, u94, u95, u96, u97, u98, u99, u100, u101, u102, u103, u104, u105, u106, u107, u108, u109, u110, u111, u112, u113, u114, u115, u116, u117, u118, u119, u120, u121, u122, u123, u124, u125, u126, u127, u128, u129, u130, u131, u132, u133, u134, u135, u136, u137, u138, u139, u140, u141, u142, u143, u144, u145, u146, u147, u148, u149, u150, u151, u152, u153, u154, u155, u156, u157, u158, u159, u160, u161, u162, u163, u164, u165, u166, u167, u168, u169, u170, u171, u172, u173, u174, u175, u176, u177, u178, u179, u180, u181, u182, u183, u184, u185, u186, u187, u188, u189, u190, u191, y192, y193, y194, y195, y196, y197, y198, y199, y200, y201, y202, y203, y204, y205, y206, y207, y208, y209, y210, y211, y212, y213, y214, y215, y216, y217, y218, u219, u220, u221, u222, u223, u224, u225, u226, u227, u228, u229, u230, u231, u232, u233, u234, u235, u236, u237, u238, u239, u240, u241, u242, u243, u244, u245, u246, u247, u248, u249, u250, u251, u252, u253, u254, u255, u256, u257, u258, u259, u260, u261, u262, u263, u264, u265, u266, u267, u268, u269, u270, u271, u272, u273, u274, u275, u276, u277, u278, u279, u280, u281, u282, u283, u284, u285, u286, u287, u288, u289, u290, u291, u292, u293, u294, u295, u296, u297, u298, u299, u300, u301, u302, u303, u304, u305, u306, u307, u308, u309, u310, u311, u312, u313, u314, u315, u316, u317, u318, u319, u320, u321, u322, u323, u324], []⟩ wr := by
  obtain ⟨T, hT⟩ : ∃ T, l.all catR = T := ⟨_, rfl⟩
  rw [hT] at hQ hR
  have H0 : Hid ((l.drop 0).all catR = T) := Lib.hid (by rw [List.drop_zero]; exact hT)
  clear hT
  have HQ := Lib.hid hQ
  have HR := Lib.hid hR
  clear hQ hR
  conv => arg 2; whnf
  dsimp only
  go_wp2_with fail
  go_loopw [14] (fun i wr => ∃ j : Nat, j ≤ l.length ∧ i = .int .i64 j ∧ Hid ((l.drop j).all catR = T) ∧ Hid (Below A.heap.size A wr)) (fun i _ => l.length - (intOf i).toNat)
  case atStart => exact ⟨0, Nat.zero_le _, rfl, H0, HB0⟩
  case round =>
    obtain ⟨j, hj, rfl, HI, HB⟩ := hrel
    clear H0 HB0
    have f1 := HF.out _ HB.out
    by_cases hlt : j < l.length
    · have hji : (j : Int) < (l.length : Int) := by omega
      obtain ⟨rfl, a0, a1, a2⟩ := HE.out _ HB.out j hlt
      have hI := HI.out
      rw [(List.getElem_cons_drop hlt).symm, List.all_cons, catR_iff] at hI
      clear HE HI
      generalize l[j] = z at *
      obtain ⟨zn, zf, zt⟩ := z
      simp only at *
      have HBA := Lib.hid (HB.out.alloc HB.out.size (.cells #[.string zn, .int .i64 zf, .int .i64 zt] 121))
      by_cases h1 : 0 ≤ zf
      · have k1 : ¬ zf < 0 := by omega
        by_cases h2 : zf ≤ zt
        · have k2 : ¬ zt < zf := by omega
          by_cases h3 : zt ≤ 120
          · have k3 : ¬ 120 < zt := by omega
            have HI2 : Hid ((l.drop (j + 1)).all catR = T) := Lib.hid (by rw [← hI]; rw [decide_eq_true (show 0 ≤ zf ∧ zf ≤ zt ∧ zt ≤ 120 from ⟨h1, h2, h3⟩)]; rfl)
            clear hI h1 h2 h3
            go_wp2_with fail
            go_round
            case rel => exact ⟨j + 1, by omega, by go_num, HI2, HBA⟩
            case measure => simp [intOf]; omega
          · have k3 : 120 < zt := by omega
            have hT : T = false := by rw [← hI]; rw [decide_eq_false (show ¬ (0 ≤ zf ∧ zf ≤ zt ∧ zt ≤ 120) by omega)]; rfl
            subst hT
            clear hI h1 h2 h3
            go_wp2_with fail
            exact HR.out _ _ _ _ _ _ _ _ _ _ _ _ _ _ _ _ _ _ _ _ _ _ _ _ _ _ _ _ _ _ (by first | rfl | trivial) HBA
        · have k2 : zt < zf := by omega
          have hT : T = false := by rw [← hI]; rw [decide_eq_false (show ¬ (0 ≤ zf ∧ zf ≤ zt ∧ zt ≤ 120) by omega)]; rfl
          subst hT
          clear hI h1 h2
          go_wp2_with fail
          exact HR.out _ _ _ _ _ _ _ _ _ _ _ _ _ _ _ _ _ _ _ _ _ _ _ _ _ _ _ _ _ _ (by first | rfl | trivial) HBA
      · have k1 : zf < 0 := by omega
        have hT : T = false := by rw [← hI]; rw [decide_eq_false (show ¬ (0 ≤ zf ∧ zf ≤ zt ∧ zt ≤ 120) by omega)]; rfl
        subst hT
        clear hI h1
        go_wp2_with fail
        exact HR.out _ _ _ _ _ _ _ _ _ _ _ _ _ _ _ _ _ _ _ _ _ _ _ _ _ _ _ _ _ _ (by first | rfl | trivial) HBA
    · have hji : ¬ (j : Int) < (l.length : Int) := by omega
      have hT : T = true := by
        have := HI.out
        rw [List.drop_of_length_le (by omega)] at this
        exact this.symm
      subst hT
      clear HE HI
      go_wp2_with fail
      exact HQ.out _ _ _ _ _ _ _ _ _ _ _ _ _ _ _ _ _ _ _ _ _ _ _ _ _ _ _ _ _ _ _ (by first | rfl | trivial) HB
end Go.Proofs.YtabdgnigmlpeaaaGreatDoor
/- The specification's ranges: block 14. -/
namespace Go.Proofs.YtabdgnigmlpeaaaGreatDoor
open Go.RowKit

set_option maxHeartbeats 32000000 in
set_option maxRecDepth 100000 in
theorem rqF_any {Q : Exit → Act → World → Prop} {A : World} {B : Nat} (wr : World) {nd nc : Nat} (hnd : nd ≤ 1000) (hnc : nc ≤ 1000) {pd pk : Option Addr} {cd ck : Nat} {l : List PrizeD} {p : Option Addr} {cap b off : Nat} (hl : l.length ≤ 1000)
    (HF : Hid (∀ w', Below A.heap.size A w' → w'.cell? ⟨B, 7, none⟩ = some (.slice p l.length cap) ∧ w'.cell? ⟨B, 3, none⟩ = some (.slice pd nd cd) ∧ w'.cell? ⟨B, 6, none⟩ = some (.slice pk nc ck))) (HE : Hid (∀ w', Below A.heap.size A w' → ∀ j (h : j < l.length), p = some ⟨b, off, none⟩ ∧ w'.cell? ⟨b, off + j * 4, none⟩ = some (.int .i64 l[j].d) ∧ w'.cell? ⟨b, off + j * 4 + 1, none⟩ = some (.int .i64 l[j].c) ∧ w'.cell? ⟨b, off + j * 4 + 2, none⟩ = some (.int .i64 l[j].r) ∧ w'.cell? ⟨b, off + j * 4 + 3, none⟩ = some (.int .i64 l[j].a)))
    {u0 u3 u4 u5 u6 u7 u8 u9 u10 u11 u12 u13 u14 u15 u20 u21 u22 u23 u24 u25 u26 u27 u28 u29 u30 u31 u32 u33 u34 u35 u36 u37 u38 u39 u40 u41 u42 u43 u44 u45 u46 u47 u48 u49 u50 u51 u52 u53 u54 u55 u56 u57 u58 u59 u60 u61 u62 u63 u64 u65 u66 u67 u68 u69 u70 u71 u72 u73 u74 u75 u76 u77 u78 u79 u80 u81 u82 u83 u84 u85 u86 u87 u88 u89 u90 u91 u92 u93 u94 u95 u96 u97 u98 u99 u100 u101 u102 u103 u104 u105 u106 u107 u108 u109 u110 u111 u112 u113 u114 u115 u116 u117 u118 u119 u120 u121 u122 u123 u124 u125 u126 u127 u128 u129 u130 u131 u132 u133 u134 u135 u136 u137 u138 u139 u140 u141 u142 u143 u144 u145 u146 u147 u148 u149 u150 u151 u152 u153 u154 u155 u156 u157 u158 u159 u160 u161 u162 u163 u164 u165 u166 u167 u168 u169 u170 u171 u172 u173 u174 u175 u176 u177 u178 u179 u180 u181 u182 u183 u184 u185 u186 u187 u188 u189 u190 u191 u192 u193 u194 u195 u196 u197 u198 u199 u200 u201 u202 u203 u204 u205 u206 u207 u208 u209 u210 u211 u212 u213 u214 u215 u216 u217 u218 u290 u291 u292 u293 u294 u295 u296 u297 u298 u299 u300 u301 u302 u303 u304 u305 u306 u307 u308 u309 u310 u311 u312 u313 u314 u315 u316 u317 u318 u319 u320 u321 u322 u323 u324 u2 y17 y18 y19 y219 y220 y221 y222 y223 y224 y225 y226 y227 y228 y229 y230 y231 y232 y233 y234 y235 y236 y237 y238 y239 y240 y241 y242 y243 y244 y245 y246 y247 y248 y249 y250 y251 y252 y253 y254 y255 y256 y257 y258 y259 y260 y261 y262 y263 y264 y265 y266 y267 y268 y269 y270 y271 y272 y273 y274 y275 y276 y277 y278 y279 y280 y281 y282 y283 y284 y285 y286 y287 y288 y289 : Value}
    (hQ : ∀ (z2 z16 z17 z18 z19 z219 z220 z221 z222 z223 z224 z225 z226 z227 z228 z229 z230 z231 z232 z233 z234 z235 z236 z237 z238 z239 z240 z241 z242 z243 z244 z245 z246 z247 z248 z249 z250 z251 z252 z253 z254 z255 z256 z257 z258 z259 z260 z261 z262 z263 z264 z265 z266 z267 z268 z269 z270 z271 z272 z273 z274 z275 z276 z277 z278 z279 z280 z281 z282 z283 z284 z285 z286 z287 z288 z289 : Value) (w' : World), okL (prizeR nd nc) threeOf l = true → Hid (Below A.heap.size A w') → Q .normal ⟨#[u0, .pointer (some ⟨B, 0, none⟩), z2, u3, u4, u5, u6, u7, u8, u9, u10, u11, u12, u13, u14, u15, z16, z17, z18, z19, u20, u21, u22, u23, u24, u25, u26, u27, u28, u29, u30, u31, u32, u33, u34, u35, u36, u37, u38, u39, u40, u41, u42, u43, u44, u45, u46, u47, u48, u49, u50, u51, u52, u53, u54, u55, u56, u57, u58, u59, u60, u61, u62, u63, u64, u65, u66, u67, u68, u69, u70, u71, u72, u73, u74, u75, u76, u77, u78, u79, u80, u81, u82, u83, u84, u85, u86, u87, u88, u89, u90, u91, u92, u93, u94, u95, u96, u97, u98, u99, u100, u101, u102, u103, u104, u105, u106, u107, u108, u109, u110, u111, u112, u113, u114, u115, u116, u117, u118, u119, u120, u121, u122, u123, u124, u125, u126, u127, u128, u129, u130, u131, u132, u133, u134, u135, u136, u137, u138, u139, u140, u141, u142, u143, u144, u145, u146, u147, u148, u149, u150, u151, u152, u153, u154, u155, u156, u157, u158, u159, u160, u161, u162, u163, u164, u165, u166, u167, u168, u169, u170, u171, u172, u173, u174, u175, u176, u177, u178, u179, u180, u181, u182, u183, u184, u185, u186, u187, u188, u189, u190, u191, u192, u193, u194, u195, u196, u197, u198, u199, u200, u201, u202, u203, u204, u205, u206, u207, u208, u209, u210, u211, u212, u213, u214, u215, u216, u217, u218, z219, z220, z221, z222, z223, z224, z225, z226, z227, z228, z229, z230, z231, z232, z233, z234, z235, z236, z237, z238, z239, z240, z241, z242, z243, z244, z245, z246, z247, z248, z249, z250, z251, z252, z253, z254, z255, z256, z257, z258, z259, z260, z261, z262, z263, z264, z265, z266, z267, z268, z269, z270, z271, z272, z273, z274, z275, z276, z277, z278, z279, z280, z281, z282, z283, z284, z285, z286, z287, z288, z289, u290, u291, u292, u293, u294, u295, u296, u297, u298, u299, u300, u301, u302, u303, u304, u305, u306, u307, u308, u309, u310, u311, u312, u313, u314, u315, u316, u317, u318, u319, u320, u321, u322, u323, u324], []⟩ w')
    (hR : ∀ (z16 z17 z18 z19 z219 z220 z221 z222 z223 z224 z225 z226 z227 z228 z229 z230 z231 z232 z233 z234 z235 z236 z237 z238 z239 z240 z241 z242 z243 z244 z245 z246 z247 z248 z249 z250 z251 z252 z253 z254 z255 z256 z257 z258 z259 z260 z261 z262 z263 z264 z265 z266 z267 z268 z269 z270 z271 z272 z273 z274 z275 z276 z277 z278 z279 z280 z281 z282 z283 z284 z285 z286 z287 z288 z289 : Value) (w' : World), okL (prizeR nd nc) threeOf l = false → Hid (Below A.heap.size A w') → Q .ret ⟨#[u0, .pointer (some ⟨B, 0, none⟩), .bool false, u3, u4, u5, u6, u7, u8, u9, u10, u11, u12, u13, u14, u15, z16, z17, z18, z19, u20, u21, u22, u23, u24, u25, u26, u27, u28, u29, u30, u31, u32, u33, u34, u35, u36, u37, u38, u39, u40, u41, u42, u43, u44, u45, u46, u47, u48, u49, u50, u51, u52, u53, u54, u55, u56, u57, u58, u59, u60, u61, u62, u63, u64, u65, u66, u67, u68, u69, u70, u71, u72, u73, u74, u75, u76, u77, u78, u79, u80, u81, u82, u83, u84, u85, u86, u87, u88, u89, u90, u91, u92, u93, u94, u95, u96, u97, u98, u99, u100, u101, u102, u103, u104, u105, u106, u107, u108, u109, u110, u111, u112, u113, u114, u115, u116, u117, u118, u119, u120, u121, u122, u123, u124, u125, u126, u127, u128, u129, u130, u131, u132, u133, u134, u135, u136, u137, u138, u139, u140, u141, u142, u143, u144, u145, u146, u147, u148, u149, u150, u151, u152, u153, u154, u155, u156, u157, u158, u159, u160, u161, u162, u163, u164, u165, u166, u167, u168, u169, u170, u171, u172, u173, u174, u175, u176, u177, u178, u179, u180, u181, u182, u183, u184, u185, u186, u187, u188, u189, u190, u191, u192, u193, u194, u195, u196, u197, u198, u199, u200, u201, u202, u203, u204, u205, u206, u207, u208, u209, u210, u211, u212, u213, u214, u215, u216, u217, u218, z219, z220, z221, z222, z223, z224, z225, z226, z227, z228, z229, z230, z231, z232, z233, z234, z235, z236, z237, z238, z239, z240, z241, z242, z243, z244, z245, z246, z247, z248, z249, z250, z251, z252, z253, z254, z255, z256, z257, z258, z259, z260, z261, z262, z263, z264, z265, z266, z267, z268, z269, z270, z271, z272, z273, z274, z275, z276, z277, z278, z279, z280, z281, z282, z283, z284, z285, z286, z287, z288, z289, u290, u291, u292, u293, u294, u295, u296, u297, u298, u299, u300, u301, u302, u303, u304, u305, u306, u307, u308, u309, u310, u311, u312, u313, u314, u315, u316, u317, u318, u319, u320, u321, u322, u323, u324], []⟩ w') (HB0 : Hid (Below A.heap.size A wr)) :
    Code.wp Tryz.prog (rgB 14) Q ⟨#[u0, .pointer (some ⟨B, 0, none⟩), u2, u3, u4, u5, u6, u7, u8, u9, u10, u11, u12, u13, u14, u15, .int .i64 0, y17, y18, y19, u20, u21, u22, u23, u24, u25, u26, u27, u28, u29, u30, u31, u32, u33, u34, u35, u36, u37, u38, u39, u40, u41, u42, u43, u44, u45, u46, u47, u48, u49, u50, u51, u52, u53, u54, u55, u56, u57, u58, u59, u60, u61, u62, u63, u64, u65, u66, u67, u68, u69, u70, u71, u72, u73, u74, u75, u76, u77, u78, u79, u80, u81, u82, u83, u84, u85, u86, u87, u88, u89, u90, u91, u92, u93, u94, u95, u96, u97, u98, u99, u100, u101, u102, u103, u104, u105, u106, u107, u108, u109, u110, u111, u112, u113, u114, u115, u116, u117, u118, u119, u120, u121, u122, u123, u124, u125, u126, u127, u128, u129, u130, u131, u132, u133, u134, u135, u136, u137, u138, u139, u140, u141, u142, u143, u144, u145, u146, u147, u148, u149, u150, u151, u152, u153, u154, u155, u156, u157, u158, u159, u160, u161, u162, u163, u164, u165, u166, u167, u168, u169, u170, u171, u172, u173, u174, u175, u176, u177, u178, u179, u180, u181, u182, u183, u184, u185, u186, u187, u188, u189, u190, u191, u192, u193, u194, u195, u196, u197, u198, u199, u200, u201, u202, u203, u204, u205, u206, u207, u208, u209, u210, u211, u212, u213, u214, u215, u216, u217, u218, y219, y220, y221, y222, y223, y224, y225, y226, y227, y228, y229, y230, y231, y232, y233, y234, y235, y236, y237, y238, y239, y240, y241, y242, y243, y244, y245, y246, y247, y248, y249, y250, y251, y252, y253, y254, y255, y256, y257, y258, y259, y260, y261, y262, y263, y264, y265, y266, y267, y268, y269, y270, y271, y272, y273, y274, y275, y276, y277, y278, y279, y280, y281, y282, y283, y284, y285, y286, y287, y288, y289, u290, u291, u292, u293, u294, u295, u296, u297, u298, u299, u300, u301, u302, u303, u304, u305, u306, u307, u308, u309, u310, u311, u312, u313, u314, u315, u316, u317, u318, u319, u320, u321, u322, u323, u324], []⟩ wr := by
  have NI : Hid (∀ a lo hi W, Calls Tryz.prog 97 #[.int .i64 a, .int .i64 lo, .int .i64 hi] W fun e w' => e = .returned (.bool (inI lo hi a)) ∧ Below W.heap.size W w') := Lib.hid fun a lo hi W => rbet_any a lo hi W
  have wd1 : IntKind.i64.wrap ((nd : Int) - 1) = (nd : Int) - 1 := IntWalk.i64_in _ (by omega)
  have wc1 : IntKind.i64.wrap ((nc : Int) - 1) = (nc : Int) - 1 := IntWalk.i64_in _ (by omega)
  have HQ := Lib.hid hQ
  have HR := Lib.hid hR
  obtain ⟨T, hT⟩ : ∃ T, okL (prizeR nd nc) threeOf l = T := ⟨_, rfl⟩
  have HT := Lib.hid hT
  have H0 : Hid (okL (prizeR nd nc) threeOf (l.take 0) = true) := Lib.hid (by rw [List.take_zero]; rfl)
  clear hQ hR hT
  conv => arg 2; whnf
  dsimp only
  go_wp2_with fail
  go_loopw [16] (fun i wr => ∃ j : Nat, j ≤ l.length ∧ i = .int .i64 j ∧ Hid (okL (prizeR nd nc) threeOf (l.take j) = true) ∧ Hid (Below A.heap.size A wr)) (fun i _ => l.length - (intOf i).toNat)
  case atStart => exact ⟨0, Nat.zero_le _, rfl, H0, HB0⟩
  case round =>
    obtain ⟨j, hj, rfl, HI, HB⟩ := hrel
    clear H0 HB0
    obtain ⟨f1, -, -⟩ := HF.out _ HB.out
    by_cases hlt : j < l.length
    · have hji : (j : Int) < (l.length : Int) := by omega
      obtain ⟨rfl, a0, a1, a2, a3⟩ := HE.out _ HB.out j hlt
      obtain ⟨g, hg⟩ : ∃ g, l[j] = g := ⟨_, rfl⟩
      rw [hg] at a0 a1 a2 a3
      obtain ⟨zd, zc, zr, za⟩ := g
      simp only at *
      have HG := Lib.hid hg
      have HBA := Lib.hid (HB.out.alloc HB.out.size (.cells #[.int .i64 zd, .int .i64 zc, .int .i64 zr, .int .i64 za] 77))
      obtain ⟨-, h4_3, h4_6⟩ := HF.out _ HBA.out
      have HX : Hid (∀ V, V = wr.alloc (.cells #[.int .i64 zd, .int .i64 zc, .int .i64 zr, .int .i64 za] 77) → ∀ w', Below V.heap.size V w' → Below A.heap.size A w' ∧ w'.cell? ⟨wr.heap.size, 0, none⟩ = some (.int .i64 zd) ∧ w'.cell? ⟨wr.heap.size, 1, none⟩ = some (.int .i64 zc) ∧ w'.cell? ⟨wr.heap.size, 2, none⟩ = some (.int .i64 zr) ∧ w'.cell? ⟨wr.heap.size, 3, none⟩ = some (.int .i64 za)) := Lib.hid fun V e w' hb => by
        subst e
        exact ⟨HBA.out.trans (hb.mono HBA.out.size), keepc hb (by simp [go_sem]), keepc hb (by simp [go_sem]), keepc hb (by simp [go_sem]), keepc hb (by simp [go_sem])⟩
      have NP1 := Lib.hid (NI.out zd 0 ((nd : Int) - 1))
      obtain ⟨q1, hq1⟩ : ∃ q, inI 0 ((nd : Int) - 1) zd = q := ⟨_, rfl⟩
      rw [hq1] at NP1
      have HQ1 := Lib.hid hq1
      clear hq1
      have NP2 := Lib.hid (NI.out zc (-1) ((nc : Int) - 1))
      obtain ⟨q2, hq2⟩ : ∃ q, inI (-1) ((nc : Int) - 1) zc = q := ⟨_, rfl⟩
      rw [hq2] at NP2
      have HQ2 := Lib.hid hq2
      clear hq2
      have NP3 := Lib.hid (NI.out zr 1 4000)
      obtain ⟨q3, hq3⟩ : ∃ q, inI 1 4000 zr = q := ⟨_, rfl⟩
      rw [hq3] at NP3
      have HQ3 := Lib.hid hq3
      clear hq3
      have NP4 := Lib.hid (NI.out za 1 1125899906842624)
      obtain ⟨q4, hq4⟩ : ∃ q, inI 1 1125899906842624 za = q := ⟨_, rfl⟩
      rw [hq4] at NP4
      have HQ4 := Lib.hid hq4
      clear hq4
      have HPz : Hid (prizeR nd nc ⟨zd, zc, zr, za⟩ = (q1 && (q2 && (q3 && q4)))) := Lib.hid (by rw [← HQ1.out, ← HQ2.out, ← HQ3.out, ← HQ4.out, inI_m1]; rfl)
      cases q1 with
      | false =>
        have hT : okL (prizeR nd nc) threeOf l = false := okL_bad hlt (by rw [hg, HPz.out]; rfl)
        have HTT := Lib.hid hT
        clear hT HT HI hg
        go_wp2_with (first | go_skip | (go_at_call 97; (with_reducible refine (NP1.out _).mono ?_); rintro e w5 ⟨rfl, hb⟩; have hv5 := hb; obtain ⟨hc5, x5_0, x5_1, x5_2, x5_3⟩ := HX.out _ rfl w5 hv5; have HB5 := Lib.hid hc5; obtain ⟨h5_7, h5_3, h5_6⟩ := HF.out _ hc5; have HV5 := Lib.hid hv5; clear hb hc5 h5_7))
        exact HR.out _ _ _ _ _ _ _ _ _ _ _ _ _ _ _ _ _ _ _ _ _ _ _ _ _ _ _ _ _ _ _ _ _ _ _ _ _ _ _ _ _ _ _ _ _ _ _ _ _ _ _ _ _ _ _ _ _ _ _ _ _ _ _ _ _ _ _ _ _ _ _ _ _ _ _ _ HTT.out HB5
      | true =>
        cases q2 with
        | false =>
          have hT : okL (prizeR nd nc) threeOf l = false := okL_bad hlt (by rw [hg, HPz.out]; rfl)
          have HTT := Lib.hid hT
          clear hT HT HI hg
          go_wp2_with (first | go_skip | (go_at_call 97; (with_reducible refine (NP1.out _).mono ?_); rintro e w5 ⟨rfl, hb⟩; have hv5 := hb; obtain ⟨hc5, x5_0, x5_1, x5_2, x5_3⟩ := HX.out _ rfl w5 hv5; have HB5 := Lib.hid hc5; obtain ⟨h5_7, h5_3, h5_6⟩ := HF.out _ hc5; have HV5 := Lib.hid hv5; clear hb hc5 h5_7) | (go_at_call 97; (with_reducible refine (NP2.out _).mono ?_); rintro e w6 ⟨rfl, hb⟩; have hv6 := hv5.trans (hb.mono hv5.size); obtain ⟨hc6, x6_0, x6_1, x6_2, x6_3⟩ := HX.out _ rfl w6 hv6; have HB6 := Lib.hid hc6; obtain ⟨h6_7, h6_3, h6_6⟩ := HF.out _ hc6; have HV6 := Lib.hid hv6; clear hb hc6 h6_7))
          exact HR.out _ _ _ _ _ _ _ _ _ _ _ _ _ _ _ _ _ _ _ _ _ _ _ _ _ _ _ _ _ _ _ _ _ _ _ _ _ _ _ _ _ _ _ _ _ _ _ _ _ _ _ _ _ _ _ _ _ _ _ _ _ _ _ _ _ _ _ _ _ _ _ _ _ _ _ _ HTT.out HB6
        | true =>
          cases q3 with
          | false =>
            have hT : okL (prizeR nd nc) threeOf l = false := okL_bad hlt (by rw [hg, HPz.out]; rfl)
            have HTT := Lib.hid hT
            clear hT HT HI hg
            go_wp2_with (first | go_skip | (go_at_call 97; (with_reducible refine (NP1.out _).mono ?_); rintro e w5 ⟨rfl, hb⟩; have hv5 := hb; obtain ⟨hc5, x5_0, x5_1, x5_2, x5_3⟩ := HX.out _ rfl w5 hv5; have HB5 := Lib.hid hc5; obtain ⟨h5_7, h5_3, h5_6⟩ := HF.out _ hc5; have HV5 := Lib.hid hv5; clear hb hc5 h5_7) | (go_at_call 97; (with_reducible refine (NP2.out _).mono ?_); rintro e w6 ⟨rfl, hb⟩; have hv6 := hv5.trans (hb.mono hv5.size); obtain ⟨hc6, x6_0, x6_1, x6_2, x6_3⟩ := HX.out _ rfl w6 hv6; have HB6 := Lib.hid hc6; obtain ⟨h6_7, h6_3, h6_6⟩ := HF.out _ hc6; have HV6 := Lib.hid hv6; clear hb hc6 h6_7) | (go_at_call 97; (with_reducible refine (NP3.out _).mono ?_); rintro e w7 ⟨rfl, hb⟩; have hv7 := hv6.trans (hb.mono hv6.size); obtain ⟨hc7, x7_0, x7_1, x7_2, x7_3⟩ := HX.out _ rfl w7 hv7; have HB7 := Lib.hid hc7; obtain ⟨h7_7, h7_3, h7_6⟩ := HF.out _ hc7; have HV7 := Lib.hid hv7; clear hb hc7 h7_7))
            exact HR.out _ _ _ _ _ _ _ _ _ _ _ _ _ _ _ _ _ _ _ _ _ _ _ _ _ _ _ _ _ _ _ _ _ _ _ _ _ _ _ _ _ _ _ _ _ _ _ _ _ _ _ _ _ _ _ _ _ _ _ _ _ _ _ _ _ _ _ _ _ _ _ _ _ _ _ _ HTT.out HB7
          | true =>
            cases q4 with
            | false =>
              have hT : okL (prizeR nd nc) threeOf l = false := okL_bad hlt (by rw [hg, HPz.out]; rfl)
              have HTT := Lib.hid hT
              clear hT HT HI hg
              go_wp2_with (first | go_skip | (go_at_call 97; (with_reducible refine (NP1.out _).mono ?_); rintro e w5 ⟨rfl, hb⟩; have hv5 := hb; obtain ⟨hc5, x5_0, x5_1, x5_2, x5_3⟩ := HX.out _ rfl w5 hv5; have HB5 := Lib.hid hc5; obtain ⟨h5_7, h5_3, h5_6⟩ := HF.out _ hc5; have HV5 := Lib.hid hv5; clear hb hc5 h5_7) | (go_at_call 97; (with_reducible refine (NP2.out _).mono ?_); rintro e w6 ⟨rfl, hb⟩; have hv6 := hv5.trans (hb.mono hv5.size); obtain ⟨hc6, x6_0, x6_1, x6_2, x6_3⟩ := HX.out _ rfl w6 hv6; have HB6 := Lib.hid hc6; obtain ⟨h6_7, h6_3, h6_6⟩ := HF.out _ hc6; have HV6 := Lib.hid hv6; clear hb hc6 h6_7) | (go_at_call 97; (with_reducible refine (NP3.out _).mono ?_); rintro e w7 ⟨rfl, hb⟩; have hv7 := hv6.trans (hb.mono hv6.size); obtain ⟨hc7, x7_0, x7_1, x7_2, x7_3⟩ := HX.out _ rfl w7 hv7; have HB7 := Lib.hid hc7; obtain ⟨h7_7, h7_3, h7_6⟩ := HF.out _ hc7; have HV7 := Lib.hid hv7; clear hb hc7 h7_7) | (go_at_call 97; (with_reducible refine (NP4.out _).mono ?_); rintro e w8 ⟨rfl, hb⟩; have hv8 := hv7.trans (hb.mono hv7.size); obtain ⟨hc8, x8_0, x8_1, x8_2, x8_3⟩ := HX.out _ rfl w8 hv8; have HB8 := Lib.hid hc8; obtain ⟨h8_7, h8_3, h8_6⟩ := HF.out _ hc8; have HV8 := Lib.hid hv8; clear hb hc8 h8_7))
              exact HR.out _ _ _ _ _ _ _ _ _ _ _ _ _ _ _ _ _ _ _ _ _ _ _ _ _ _ _ _ _ _ _ _ _ _ _ _ _ _ _ _ _ _ _ _ _ _ _ _ _ _ _ _ _ _ _ _ _ _ _ _ _ _ _ _ _ _ _ _ _ _ _ _ _ _ _ _ HTT.out HB8
            | true =>
              have HPj : Hid (prizeR nd nc l[j] = true) := Lib.hid (by rw [hg, HPz.out]; rfl)
              clear hg
              go_wp2_with (first | go_skip | (go_at_call 97; (with_reducible refine (NP1.out _).mono ?_); rintro e w5 ⟨rfl, hb⟩; have hv5 := hb; obtain ⟨hc5, x5_0, x5_1, x5_2, x5_3⟩ := HX.out _ rfl w5 hv5; have HB5 := Lib.hid hc5; obtain ⟨h5_7, h5_3, h5_6⟩ := HF.out _ hc5; have HV5 := Lib.hid hv5; clear hb hc5 h5_7) | (go_at_call 97; (with_reducible refine (NP2.out _).mono ?_); rintro e w6 ⟨rfl, hb⟩; have hv6 := hv5.trans (hb.mono hv5.size); obtain ⟨hc6, x6_0, x6_1, x6_2, x6_3⟩ := HX.out _ rfl w6 hv6; have HB6 := Lib.hid hc6; obtain ⟨h6_7, h6_3, h6_6⟩ := HF.out _ hc6; have HV6 := Lib.hid hv6; clear hb hc6 h6_7) | (go_at_call 97; (with_reducible refine (NP3.out _).mono ?_); rintro e w7 ⟨rfl, hb⟩; have hv7 := hv6.trans (hb.mono hv6.size); obtain ⟨hc7, x7_0, x7_1, x7_2, x7_3⟩ := HX.out _ rfl w7 hv7; have HB7 := Lib.hid hc7; obtain ⟨h7_7, h7_3, h7_6⟩ := HF.out _ hc7; have HV7 := Lib.hid hv7; clear hb hc7 h7_7) | (go_at_call 97; (with_reducible refine (NP4.out _).mono ?_); rintro e w8 ⟨rfl, hb⟩; have hv8 := hv7.trans (hb.mono hv7.size); obtain ⟨hc8, x8_0, x8_1, x8_2, x8_3⟩ := HX.out _ rfl w8 hv8; have HB8 := Lib.hid hc8; obtain ⟨h8_7, h8_3, h8_6⟩ := HF.out _ hc8; have HV8 := Lib.hid hv8; clear hb hc8 h8_7))
              go_loopw [18] (fun i wr2 => ∃ k : Nat, k ≤ j ∧ i = .int .i64 k ∧ Hid (∀ z (hz : z < k), ∃ h : z < l.length, threeOf l[z] ≠ (zd, zc, zr)) ∧ Hid (Below (wr.alloc (.cells #[.int .i64 zd, .int .i64 zc, .int .i64 zr, .int .i64 za] 77)).heap.size (wr.alloc (.cells #[.int .i64 zd, .int .i64 zc, .int .i64 zr, .int .i64 za] 77)) wr2)) (fun i _ => j - (intOf i).toNat)
              case atStart => exact ⟨0, Nat.zero_le _, rfl, Lib.hid (fun z hz => absurd hz (by omega)), HV8⟩
              case round =>
                obtain ⟨k, hk, rfl, HD, HV⟩ := hrel
                obtain ⟨hcA, y0, y1, y2, -⟩ := HX.out _ rfl _ HV.out
                have HBk := Lib.hid hcA
                obtain ⟨f1, -, -⟩ := HF.out _ hcA
                have hjl : j < l.length := hlt
                by_cases hkl : k < j
                · have hki : (k : Int) < (j : Int) := by omega
                  have hki2 : (k : Int) < (l.length : Int) := by omega
                  obtain ⟨-, b0, b1, b2, b3⟩ := HE.out _ hcA k (by omega)
                  obtain ⟨u, hu⟩ : ∃ u, l[k]'(by omega) = u := ⟨_, rfl⟩
                  have HU : Hid (∃ h : k < l.length, l[k] = u) := Lib.hid ⟨by omega, hu⟩
                  rw [hu] at b0 b1 b2 b3
                  obtain ⟨ud, uc, ur, ua⟩ := u
                  simp only at *
                  clear hu hcA HE HI
                  have HVA := Lib.hid (HV.out.alloc HV.out.size (.cells #[.int .i64 ud, .int .i64 uc, .int .i64 ur, .int .i64 ua] 77))
                  have HBkA := Lib.hid (HBk.out.alloc HBk.out.size (.cells #[.int .i64 ud, .int .i64 uc, .int .i64 ur, .int .i64 ua] 77))
                  have hbA := (Below.refl wr.heap.size wr).alloc (Nat.le_refl _) (.cells #[.int .i64 ud, .int .i64 uc, .int .i64 ur, .int .i64 ua] 77)
                  have y0 := keepc hbA y0
                  have y1 := keepc hbA y1
                  have y2 := keepc hbA y2
                  clear hbA
                  by_cases e1 : ud = zd
                  · have d1 : (ud == zd) = true := by simpa using e1
                    by_cases e2 : uc = zc
                    · have d2 : (uc == zc) = true := by simpa using e2
                      by_cases e3 : ur = zr
                      · have d3 : (ur == zr) = true := by simpa using e3
                        have HTT : Hid (okL (prizeR nd nc) threeOf l = false) := Lib.hid (okL_twice hjl hkl (by obtain ⟨h, hu⟩ := HU.out; rw [hu, HG.out]; simp [threeOf, e1, e2, e3]))
                        clear e1 e2 e3 HD HT
                        go_wp2_with fail
                        exact HR.out _ _ _ _ _ _ _ _ _ _ _ _ _ _ _ _ _ _ _ _ _ _ _ _ _ _ _ _ _ _ _ _ _ _ _ _ _ _ _ _ _ _ _ _ _ _ _ _ _ _ _ _ _ _ _ _ _ _ _ _ _ _ _ _ _ _ _ _ _ _ _ _ _ _ _ _ HTT.out HBkA
                      · have d3 : (ur == zr) = false := by simpa using e3
                        have HD2 : Hid (∀ z (hz : z < k + 1), ∃ h : z < l.length, threeOf l[z] ≠ (zd, zc, zr)) := Lib.hid fun z hz => by
                          by_cases hzk : z = k
                          · subst hzk
                            obtain ⟨h, hu⟩ := HU.out
                            refine ⟨h, ?_⟩
                            rw [hu]
                            simp [threeOf, e3]
                          · exact HD.out z (by omega)
                        clear e1 e2 e3 HD HT
                        go_wp2_with fail
                        go_round
                        case rel => exact ⟨k + 1, by omega, by go_num, HD2, HVA⟩
                        case measure => simp [intOf]; omega
                    · have d2 : (uc == zc) = false := by simpa using e2
                      have HD2 : Hid (∀ z (hz : z < k + 1), ∃ h : z < l.length, threeOf l[z] ≠ (zd, zc, zr)) := Lib.hid fun z hz => by
                        by_cases hzk : z = k
                        · subst hzk
                          obtain ⟨h, hu⟩ := HU.out
                          refine ⟨h, ?_⟩
                          rw [hu]
                          simp [threeOf, e2]
                        · exact HD.out z (by omega)
                      clear e1 e2 HD HT
                      go_wp2_with fail
                      go_round
                      case rel => exact ⟨k + 1, by omega, by go_num, HD2, HVA⟩
                      case measure => simp [intOf]; omega
                  · have d1 : (ud == zd) = false := by simpa using e1
                    have HD2 : Hid (∀ z (hz : z < k + 1), ∃ h : z < l.length, threeOf l[z] ≠ (zd, zc, zr)) := Lib.hid fun z hz => by
                      by_cases hzk : z = k
                      · subst hzk
                        obtain ⟨h, hu⟩ := HU.out
                        refine ⟨h, ?_⟩
                        rw [hu]
                        simp [threeOf, e1]
                      · exact HD.out z (by omega)
                    clear e1 HD HT
                    go_wp2_with fail
                    go_round
                    case rel => exact ⟨k + 1, by omega, by go_num, HD2, HVA⟩
                    case measure => simp [intOf]; omega
                · have hki : ¬ (k : Int) < (j : Int) := by omega
                  have HI2 : Hid (okL (prizeR nd nc) threeOf (l.take (j + 1)) = true) := Lib.hid (okL_one hjl HI.out HPj.out fun z hz => by obtain ⟨h, he⟩ := HD.out z (by omega); rw [HG.out]; exact he)
                  clear HI HD HE HT hcA
                  go_wp2_with fail
                  go_roundw
                  case rel => exact ⟨j + 1, by omega, by go_num, HI2, HBk⟩
                  case measure => simp [intOf]; omega
    · have hji : ¬ (j : Int) < (l.length : Int) := by omega
      have hT : okL (prizeR nd nc) threeOf l = true := by
        have := HI.out
        rwa [List.take_of_length_le (by omega)] at this
      have HTT := Lib.hid hT
      clear HE HI hT
      go_wp2_with fail
      exact HQ.out _ _ _ _ _ _ _ _ _ _ _ _ _ _ _ _ _ _ _ _ _ _ _ _ _ _ _ _ _ _ _ _ _ _ _ _ _ _ _ _ _ _ _ _ _ _ _ _ _ _ _ _ _ _ _ _ _ _ _ _ _ _ _ _ _ _ _ _ _ _ _ _ _ _ _ _ _ HTT.out HB
end Go.Proofs.YtabdgnigmlpeaaaGreatDoor
/- The specification's ranges: block 6. -/
namespace Go.Proofs.YtabdgnigmlpeaaaGreatDoor
open Go.RowKit

set_option maxHeartbeats 32000000 in
set_option maxRecDepth 100000 in
theorem rqG_any {Q : Exit → Act → World → Prop} {A : World} {B : Nat} (wr : World) {m : Nat} {v0 v1 v2 v4 v5 v6 v7 v8 v9 v10 v11 v12 v13 v14 v15 : Value} {l : List (DistD × DLoc)} {p : Option Addr} {cap b off : Nat} (hl : l.length ≤ 1000)
    (ND : Hid (∀ j (h : j < l.length) W, Below A.heap.size A W → Calls Tryz.prog 99 #[.agg #[v0, v1, v2, .slice p l.length cap, v4, v5, v6, v7, v8, v9, v10, v11, v12, v13, v14, v15], distV l[j].1 l[j].2] W fun e w' => e = .returned (.bool (distR m l[j].1)) ∧ Below W.heap.size W w'))
    (HLd : Hid (∀ w', Below A.heap.size A w' → w'.cell? ⟨B, 0, none⟩ = some (v0) ∧ w'.cell? ⟨B, 1, none⟩ = some (v1) ∧ w'.cell? ⟨B, 2, none⟩ = some (v2) ∧ w'.cell? ⟨B, 3, none⟩ = some (.slice p l.length cap) ∧ w'.cell? ⟨B, 4, none⟩ = some (v4) ∧ w'.cell? ⟨B, 5, none⟩ = some (v5) ∧ w'.cell? ⟨B, 6, none⟩ = some (v6) ∧ w'.cell? ⟨B, 7, none⟩ = some (v7) ∧ w'.cell? ⟨B, 8, none⟩ = some (v8) ∧ w'.cell? ⟨B, 9, none⟩ = some (v9) ∧ w'.cell? ⟨B, 10, none⟩ = some (v10) ∧ w'.cell? ⟨B, 11, none⟩ = some (v11) ∧ w'.cell? ⟨B, 12, none⟩ = some (v12) ∧ w'.cell? ⟨B, 13, none⟩ = some (v13) ∧ w'.cell? ⟨B, 14, none⟩ = some (v14) ∧ w'.cell? ⟨B, 15, none⟩ = some (v15)))
    (HF : Hid (∀ w', Below A.heap.size A w' → w'.cell? ⟨B, 3, none⟩ = some (.slice p l.length cap))) (HE : Hid (∀ w', Below A.heap.size A w' → ∀ j (h : j < l.length), p = some ⟨b, off, none⟩ ∧ w'.cell? ⟨b, off + j * 5, none⟩ = some (.string l[j].1.n) ∧ w'.cell? ⟨b, off + j * 5 + 1, none⟩ = some (.slice l[j].2.pr l[j].1.r.length l[j].2.cr) ∧ w'.cell? ⟨b, off + j * 5 + 2, none⟩ = some (.int .i64 l[j].1.t) ∧ w'.cell? ⟨b, off + j * 5 + 3, none⟩ = some (.slice l[j].2.pc l[j].1.cs.length l[j].2.cc) ∧ w'.cell? ⟨b, off + j * 5 + 4, none⟩ = some (.int .i64 l[j].1.x)))
    {u0 u3 u4 u5 u6 u8 u9 u10 u11 u12 u13 u14 u15 u16 u17 u18 u19 u20 u21 u22 u23 u24 u25 u26 u27 u28 u29 u30 u31 u32 u33 u34 u35 u36 u37 u38 u39 u40 u41 u42 u43 u44 u45 u46 u47 u48 u49 u50 u51 u52 u53 u54 u55 u56 u57 u58 u59 u60 u61 u62 u63 u64 u65 u66 u67 u68 u69 u70 u71 u72 u73 u74 u75 u76 u77 u78 u79 u80 u81 u82 u83 u84 u85 u86 u87 u88 u89 u90 u91 u92 u93 u94 u95 u96 u97 u98 u99 u100 u101 u117 u118 u119 u120 u121 u122 u123 u124 u125 u126 u127 u128 u129 u130 u131 u132 u133 u134 u135 u136 u137 u138 u139 u140 u141 u142 u143 u144 u145 u146 u147 u148 u149 u150 u151 u152 u153 u154 u155 u156 u157 u158 u159 u160 u161 u162 u163 u164 u165 u166 u167 u168 u169 u170 u171 u172 u173 u174 u175 u176 u177 u178 u179 u180 u181 u182 u183 u184 u185 u186 u187 u188 u189 u190 u191 u192 u193 u194 u195 u196 u197 u198 u199 u200 u201 u202 u203 u204 u205 u206 u207 u208 u209 u210 u211 u212 u213 u214 u215 u216 u217 u218 u219 u220 u221 u222 u223 u224 u225 u226 u227 u228 u229 u230 u231 u232 u233 u234 u235 u236 u237 u238 u239 u240 u241 u242 u243 u244 u245 u246 u247 u248 u249 u250 u251 u252 u253 u254 u255 u256 u257 u258 u259 u260 u261 u262 u263 u264 u265 u266 u267 u268 u269 u270 u271 u272 u273 u274 u275 u276 u277 u278 u279 u280 u281 u282 u283 u284 u285 u286 u287 u288 u289 u290 u291 u292 u293 u294 u295 u296 u297 u298 u299 u300 u301 u302 u303 u304 u305 u306 u307 u308 u309 u310 u311 u312 u313 u314 u315 u316 u317 u318 u319 u320 u321 u322 u323 u324 u2 y102 y103 y104 y105 y106 y107 y108 y109 y110 y111 y112 y113 y114 y115 y116 : Value}
    (hQ : ∀ (z2 z7 z102 z103 z104 z105 z106 z107 z108 z109 z110 z111 z112 z113 z114 z115 z116 : Value) (w' : World), l.all (fun z => distR m z.1) = true → Hid (Below A.heap.size A w') → Q .normal ⟨#[u0, .pointer (some ⟨B, 0, none⟩), z2, u3, u4, u5, u6, z7, u8, u9, u10, u11, u12, u13, u14, u15, u16, u17, u18, u19, u20, u21, u22, u23, u24, u25, u26, u27, u28, u29, u30, u31, u32, u33, u34, u35, u36, u37, u38, u39, u40, u41, u42, u43, u44, u45, u46, u47, u48, u49, u50, u51, u52, u53, u54, u55, u56, u57, u58, u59, u60, u61, u62, u63, u64, u65, u66, u67, u68, u69, u70, u71, u72, u73, u74, u75, u76, u77, u78, u79, u80, u81, u82, u83, u84, u85, u86, u87, u88, u89, u90, u91, u92, u93, u94, u95, u96, u97, u98, u99, u100, u101, z102, z103, z104, z105, z106, z107, z108, z109, z110, z111, z112, z113, z114, z115, z116, u117, u118, u119, u120, u121, u122, u123, u124, u125, u126, u127, u128, u129, u130, u131, u132, u133, u134, u135, u136, u137, u138, u139, u140, u141, u142, u143, u144, u145, u146, u147, u148, u149, u150, u151, u152, u153, u154, u155, u156, u157, u158, u159, u160, u161, u162, u163, u164, u165, u166, u167, u168, u169, u170, u171, u172, u173, u174, u175, u176, u177, u178, u179, u180, u181, u182, u183, u184, u185, u186, u187, u188, u189, u190, u191, u192, u193, u194, u195, u196, u197, u198, u199, u200, u201, u202, u203, u204, u205, u206, u207, u208, u209, u210, u211, u212, u213, u214, u215, u216, u217, u218, u219, u220, u221, u222, u223, u224, u225, u226, u227, u228, u229, u230, u231, u232, u233, u234, u235, u236, u237, u238, u239, u240, u241, u242, u243, u244, u245, u246, u247, u248, u249, u250, u251, u252, u253, u254, u255, u256, u257, u258, u259, u260, u261, u262, u263, u264, u265, u266, u267, u268, u269, u270, u271, u272, u273, u274, u275, u276, u277, u278, u279, u280, u281, u282, u283, u284, u285, u286, u287, u288, u289, u290, u291, u292, u293, u294, u295, u296, u297, u298, u299, u300, u301, u302, u303, u304, u305, u306, u307, u308, u309, u310, u311, u312, u313, u314, u315, u316, u317, u318, u319, u320, u321, u322, u323, u324], []⟩ w')
    (hR : ∀ (z7 z102 z103 z104 z105 z106 z107 z108 z109 z110 z111 z112 z113 z114 z115 z116 : Value) (w' : World), l.all (fun z => distR m z.1) = false → Hid (Below A.heap.size A w') → Q .ret ⟨#[u0, .pointer (some ⟨B, 0, none⟩), .bool false, u3, u4, u5, u6, z7, u8, u9, u10, u11, u12, u13, u14, u15, u16, u17, u18, u19, u20, u21, u22, u23, u24, u25, u26, u27, u28, u29, u30, u31, u32, u33, u34, u35, u36, u37, u38, u39, u40, u41, u42, u43, u44, u45, u46, u47, u48, u49, u50, u51, u52, u53, u54, u55, u56, u57, u58, u59, u60, u61, u62, u63, u64, u65, u66, u67, u68, u69, u70, u71, u72, u73, u74, u75, u76, u77, u78, u79, u80, u81, u82, u83, u84, u85, u86, u87, u88, u89, u90, u91, u92, u93, u94, u95, u96, u97, u98, u99, u100, u101, z102, z103, z104, z105, z106, z107, z108, z109, z110, z111, z112, z113, z114, z115, z116, u117, u118, u119, u120, u121, u122, u123, u124, u125, u126, u127, u128, u129, u130, u131, u132, u133, u134, u135, u136, u137, u138, u139, u140, u141, u142, u143, u144, u145, u146, u147, u148, u149, u150, u151, u152, u153, u154, u155, u156, u157, u158, u159, u160, u161, u162, u163, u164, u165, u166, u167, u168, u169, u170, u171, u172, u173, u174, u175, u176, u177, u178, u179, u180, u181, u182, u183, u184, u185, u186, u187, u188, u189, u190, u191, u192, u193, u194, u195, u196, u197, u198, u199, u200, u201, u202, u203, u204, u205, u206, u207, u208, u209, u210, u211, u212, u213, u214, u215, u216, u217, u218, u219, u220, u221, u222, u223, u224, u225, u226, u227, u228, u229, u230, u231, u232, u233, u234, u235, u236, u237, u238, u239, u240, u241, u242, u243, u244, u245, u246, u247, u248, u249, u250, u251, u252, u253, u254, u255, u256, u257, u258, u259, u260, u261, u262, u263, u264, u265, u266, u267, u268, u269, u270, u271, u272, u273, u274, u275, u276, u277, u278, u279, u280, u281, u282, u283, u284, u285, u286, u287, u288, u289, u290, u291, u292, u293, u294, u295, u296, u297, u298, u299, u300, u301, u302, u303, u304, u305, u306, u307, u308, u309, u310, u311, u312, u313, u314, u315, u316, u317, u318, u319, u320, u321, u322, u323, u324], []⟩ w') (HB0 : Hid (Below A.heap.size A wr)) :
    Code.wp Tryz.prog (rgB 6) Q ⟨#[u0, .pointer (some ⟨B, 0, none⟩), u2, u3, u4, u5, u6, .int .i64 0, u8, u9, u10, u11, u12, u13, u14, u15, u16, u17, u18, u19, u20, u21, u22, u23, u24, u25, u26, u27, u28, u29, u30, u31, u32, u33, u34, u35, u36, u37, u38, u39, u40, u41, u42, u43, u44, u45, u46, u47, u48, u49, u50, u51, u52, u53, u54, u55, u56, u57, u58, u59, u60, u61, u62, u63, u64, u65, u66, u67, u68, u69, u70, u71, u72, u73, u74, u75, u76, u77, u78, u79, u80, u81, u82, u83, u84, u85, u86, u87, u88, u89, u90, u91, u92, u93, u94, u95, u96, u97, u98, u99, u100, u101, y102, y103, y104, y105, y106, y107, y108, y109, y110, y111, y112, y113, y114, y115, y116, u117, u118, u119, u120, u121, u122, u123, u124, u125, u126, u127, u128, u129, u130, u131, u132, u133, u134, u135, u136, u137, u138, u139, u140, u141, u142, u143, u144, u145, u146, u147, u148, u149, u150, u151, u152, u153, u154, u155, u156, u157, u158, u159, u160, u161, u162, u163, u164, u165, u166, u167, u168, u169, u170, u171, u172, u173, u174, u175, u176, u177, u178, u179, u180, u181, u182, u183, u184, u185, u186, u187, u188, u189, u190, u191, u192, u193, u194, u195, u196, u197, u198, u199, u200, u201, u202, u203, u204, u205, u206, u207, u208, u209, u210, u211, u212, u213, u214, u215, u216, u217, u218, u219, u220, u221, u222, u223, u224, u225, u226, u227, u228, u229, u230, u231, u232, u233, u234, u235, u236, u237, u238, u239, u240, u241, u242, u243, u244, u245, u246, u247, u248, u249, u250, u251, u252, u253, u254, u255, u256, u257, u258, u259, u260, u261, u262, u263, u264, u265, u266, u267, u268, u269, u270, u271, u272, u273, u274, u275, u276, u277, u278, u279, u280, u281, u282, u283, u284, u285, u286, u287, u288, u289, u290, u291, u292, u293, u294, u295, u296, u297, u298, u299, u300, u301, u302, u303, u304, u305, u306, u307, u308, u309, u310, u311, u312, u313, u314, u315, u316, u317, u318, u319, u320, u321, u322, u323, u324], []⟩ wr := by
  obtain ⟨T, hT⟩ : ∃ T, l.all (fun z => distR m z.1) = T := ⟨_, rfl⟩
  rw [hT] at hQ hR
  have H0 : Hid ((l.drop 0).all (fun z => distR m z.1) = T) := Lib.hid (by rw [List.drop_zero]; exact hT)
  clear hT
  have HQ := Lib.hid hQ
  have HR := Lib.hid hR
  clear hQ hR
  conv => arg 2; whnf
  dsimp only
  go_wp2_with fail
  go_loopw [7] (fun i wr => ∃ j : Nat, j ≤ l.length ∧ i = .int .i64 j ∧ Hid ((l.drop j).all (fun z => distR m z.1) = T) ∧ Hid (Below A.heap.size A wr)) (fun i _ => l.length - (intOf i).toNat)
  case atStart => exact ⟨0, Nat.zero_le _, rfl, H0, HB0⟩
  case round =>
    obtain ⟨j, hj, rfl, HI, HB⟩ := hrel
    clear H0 HB0
    have f1 := HF.out _ HB.out
    by_cases hlt : j < l.length
    · have hji : (j : Int) < (l.length : Int) := by omega
      have f16 := HLd.out _ HB.out
      obtain ⟨rfl, a0, a1, a2, a3, a4⟩ := HE.out _ HB.out j hlt
      have hI := HI.out
      rw [(List.getElem_cons_drop hlt).symm, List.all_cons] at hI
      have ND0 : Hid (∀ W, Below wr.heap.size wr W → Calls Tryz.prog 99 #[.agg #[v0, v1, v2, .slice (some ⟨b, off, none⟩) l.length cap, v4, v5, v6, v7, v8, v9, v10, v11, v12, v13, v14, v15], distV l[j].1 l[j].2] W fun e w' => e = .returned (.bool (distR m l[j].1)) ∧ Hid (Below wr.heap.size wr w')) := Lib.hid fun W hW => (ND.out j hlt W (HB.out.trans (hW.mono HB.out.size))).mono fun e w' h => ⟨h.1, Lib.hid (hW.trans (h.2.mono hW.size))⟩
      have HLW : Hid (∀ w', Below wr.heap.size wr w' → Below A.heap.size A w') := Lib.hid fun w' hb => HB.out.trans (hb.mono HB.out.size)
      obtain ⟨g0, g1, g2, g3, g4, g5, g6, g7, g8, g9, g10, g11, g12, g13, g14, g15⟩ := f16
      have HX : Hid (∀ w', Below wr.heap.size wr w' → w'.cell? ⟨B, 0, none⟩ = some (v0) ∧ w'.cell? ⟨B, 1, none⟩ = some (v1) ∧ w'.cell? ⟨B, 2, none⟩ = some (v2) ∧ w'.cell? ⟨B, 3, none⟩ = some (.slice (some ⟨b, off, none⟩) l.length cap) ∧ w'.cell? ⟨B, 4, none⟩ = some (v4) ∧ w'.cell? ⟨B, 5, none⟩ = some (v5) ∧ w'.cell? ⟨B, 6, none⟩ = some (v6) ∧ w'.cell? ⟨B, 7, none⟩ = some (v7) ∧ w'.cell? ⟨B, 8, none⟩ = some (v8) ∧ w'.cell? ⟨B, 9, none⟩ = some (v9) ∧ w'.cell? ⟨B, 10, none⟩ = some (v10) ∧ w'.cell? ⟨B, 11, none⟩ = some (v11) ∧ w'.cell? ⟨B, 12, none⟩ = some (v12) ∧ w'.cell? ⟨B, 13, none⟩ = some (v13) ∧ w'.cell? ⟨B, 14, none⟩ = some (v14) ∧ w'.cell? ⟨B, 15, none⟩ = some (v15) ∧ w'.cell? ⟨b, off + j * 5, none⟩ = some (.string l[j].1.n) ∧ w'.cell? ⟨b, off + j * 5 + 1, none⟩ = some (.slice l[j].2.pr l[j].1.r.length l[j].2.cr) ∧ w'.cell? ⟨b, off + j * 5 + 2, none⟩ = some (.int .i64 l[j].1.t) ∧ w'.cell? ⟨b, off + j * 5 + 3, none⟩ = some (.slice l[j].2.pc l[j].1.cs.length l[j].2.cc) ∧ w'.cell? ⟨b, off + j * 5 + 4, none⟩ = some (.int .i64 l[j].1.x) ∧ Hid (Below wr.heap.size wr w')) := Lib.hid fun w' hb => ⟨keepc hb g0, keepc hb g1, keepc hb g2, keepc hb g3, keepc hb g4, keepc hb g5, keepc hb g6, keepc hb g7, keepc hb g8, keepc hb g9, keepc hb g10, keepc hb g11, keepc hb g12, keepc hb g13, keepc hb g14, keepc hb g15, keepc hb a0, keepc hb a1, keepc hb a2, keepc hb a3, keepc hb a4, Lib.hid hb⟩
      clear HE HI ND
      unfold distV DistD.cells at ND0
      generalize distR m l[j].1 = q at *
      generalize l[j] = z at *
      obtain ⟨⟨dn, dr, dt, dc, dx⟩, ⟨pr, cr, pc, cc⟩⟩ := z
      simp only at *
      generalize dr.length = nr at *
      generalize dc.length = nk at *
      have HB1 := Lib.hid (Below.refl wr.heap.size wr)
      have HD := Lib.hid (Below.refl wr.heap.size wr).drew
      cases q with
      | false =>
        have hT : T = false := by rw [← hI]; rfl
        subst hT
        clear hI
        go_upto_region 20 with (fail)
        go_region_held3 (fun w' => w'.cell? ⟨B, 0, none⟩ = some (v0) ∧ w'.cell? ⟨B, 1, none⟩ = some (v1) ∧ w'.cell? ⟨B, 2, none⟩ = some (v2) ∧ w'.cell? ⟨B, 3, none⟩ = some (.slice (some ⟨b, off, none⟩) l.length cap) ∧ w'.cell? ⟨B, 4, none⟩ = some (v4) ∧ w'.cell? ⟨B, 5, none⟩ = some (v5) ∧ w'.cell? ⟨B, 6, none⟩ = some (v6) ∧ w'.cell? ⟨B, 7, none⟩ = some (v7) ∧ w'.cell? ⟨B, 8, none⟩ = some (v8) ∧ w'.cell? ⟨B, 9, none⟩ = some (v9) ∧ w'.cell? ⟨B, 10, none⟩ = some (v10) ∧ w'.cell? ⟨B, 11, none⟩ = some (v11) ∧ w'.cell? ⟨B, 12, none⟩ = some (v12) ∧ w'.cell? ⟨B, 13, none⟩ = some (v13) ∧ w'.cell? ⟨B, 14, none⟩ = some (v14) ∧ w'.cell? ⟨B, 15, none⟩ = some (v15) ∧ w'.cell? ⟨b, off + j * 5, none⟩ = some (.string dn) ∧ w'.cell? ⟨b, off + j * 5 + 1, none⟩ = some (.slice pr nr cr) ∧ w'.cell? ⟨b, off + j * 5 + 2, none⟩ = some (.int .i64 dt) ∧ w'.cell? ⟨b, off + j * 5 + 3, none⟩ = some (.slice pc nk cc) ∧ w'.cell? ⟨b, off + j * 5 + 4, none⟩ = some (.int .i64 dx) ∧ Hid (Below wr.heap.size wr w'))
          (first
            | with_reducible exact HX.out _ HD.out
            | with_reducible exact HX.out _ HB1.out
            | with_reducible exact HX.out _ hb1.out
            | assumption | go_keep)
          ((go_at_call 99; with_reducible refine (ND0.out _ (held21h (by assumption))).mono ?_; rintro e w' ⟨rfl, hb1⟩))
        all_goals
          go_wp2_with fail
          exact HR.out _ _ _ _ _ _ _ _ _ _ _ _ _ _ _ _ _ (by first | rfl | trivial) (Lib.hid (HLW.out _ hb1.out))
      | true =>
        have HI2 : Hid ((l.drop (j + 1)).all (fun z => distR m z.1) = T) := Lib.hid (by rw [← hI]; rfl)
        clear hI
        go_upto_region 20 with (fail)
        go_region_held3 (fun w' => w'.cell? ⟨B, 0, none⟩ = some (v0) ∧ w'.cell? ⟨B, 1, none⟩ = some (v1) ∧ w'.cell? ⟨B, 2, none⟩ = some (v2) ∧ w'.cell? ⟨B, 3, none⟩ = some (.slice (some ⟨b, off, none⟩) l.length cap) ∧ w'.cell? ⟨B, 4, none⟩ = some (v4) ∧ w'.cell? ⟨B, 5, none⟩ = some (v5) ∧ w'.cell? ⟨B, 6, none⟩ = some (v6) ∧ w'.cell? ⟨B, 7, none⟩ = some (v7) ∧ w'.cell? ⟨B, 8, none⟩ = some (v8) ∧ w'.cell? ⟨B, 9, none⟩ = some (v9) ∧ w'.cell? ⟨B, 10, none⟩ = some (v10) ∧ w'.cell? ⟨B, 11, none⟩ = some (v11) ∧ w'.cell? ⟨B, 12, none⟩ = some (v12) ∧ w'.cell? ⟨B, 13, none⟩ = some (v13) ∧ w'.cell? ⟨B, 14, none⟩ = some (v14) ∧ w'.cell? ⟨B, 15, none⟩ = some (v15) ∧ w'.cell? ⟨b, off + j * 5, none⟩ = some (.string dn) ∧ w'.cell? ⟨b, off + j * 5 + 1, none⟩ = some (.slice pr nr cr) ∧ w'.cell? ⟨b, off + j * 5 + 2, none⟩ = some (.int .i64 dt) ∧ w'.cell? ⟨b, off + j * 5 + 3, none⟩ = some (.slice pc nk cc) ∧ w'.cell? ⟨b, off + j * 5 + 4, none⟩ = some (.int .i64 dx) ∧ Hid (Below wr.heap.size wr w'))
          (first
            | with_reducible exact HX.out _ HD.out
            | with_reducible exact HX.out _ HB1.out
            | with_reducible exact HX.out _ hb1.out
            | assumption | go_keep)
          ((go_at_call 99; with_reducible refine (ND0.out _ (held21h (by assumption))).mono ?_; rintro e w' ⟨rfl, hb1⟩))
        all_goals
          go_wp2_with fail
          go_round
          case rel => exact ⟨j + 1, by omega, by go_num, HI2, Lib.hid (HLW.out _ hb1.out)⟩
          case measure => simp [intOf]; omega
    · have hji : ¬ (j : Int) < (l.length : Int) := by omega
      have hT : T = true := by
        have := HI.out
        rw [List.drop_of_length_le (by omega)] at this
        exact this.symm
      subst hT
      clear HE HI
      go_wp2_with fail
      exact HQ.out _ _ _ _ _ _ _ _ _ _ _ _ _ _ _ _ _ _ (by first | rfl | trivial) HB
end Go.Proofs.YtabdgnigmlpeaaaGreatDoor
