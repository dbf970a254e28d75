/-
  The keeper's does (9.5), the steps that are no order: a cancel, a tick, a halt, an opening. Over this seat's translation. Conditions stand in each theorem.
-/
import Derived.Test.YtjdkagafdnchhaaGreatDoorLU
namespace Go.Proofs.YtjdkagafdnchhaaGreatDoor
open Go.RowKit Go.Maps

set_option maxRecDepth 100000 in
set_option maxHeartbeats 40000000 in
theorem doOth (base : Nat) (c : DCfg) (d : DayK) (M : Mkt) (lots side : Int → Int) (since : Int) (hands : Bool) (what : Int) (o : Ord) (w w2 : World) (Q : Exit → Act → World → Prop) (c1 c2 c7 c8 c10 c11 c12 c13 c14 c15 c16 c17 c18 c19 c20 c21 c22 c23 c24 c25 c26 c27 c28 c29 c30 c31 c32 c33 c34 c36 c37 c38 c39 c40 c41 c42 c43 c44 c45 c46 c47 c48 c49 c50 c51 c52 c53 c54 c55 c56 c57 c58 c59 c60 c61 c62 c63 c64 c65 c66 c67 c68 c69 c70 c71 c72 c73 c74 c75 c76 c77 c78 c79 c80 c81 c82 c83 c84 c85 c86 c87 c88 c89 c90 c91 c92 c93 c94 c95 c96 c97 c98 c99 c100 c101 c102 c103 c104 c105 c106 c107 c108 c109 c110 c111 c112 c113 c114 c115 c116 c117 c118 c119 c120 c121 c122 c123 c124 c125 c126 c127 c128 c129 c130 c131 c132 c133 c134 c135 c136 c137 c138 c139 c140 c141 c142 c143 c144 c145 c146 c147 c148 c149 c150 c151 c152 c153 c154 c155 c156 c157 c158 c159 c160 c161 c162 c163 c164 c165 c166 c167 c168 c169 c170 c171 c172 c173 c174 c175 c176 c177 c178 c179 c180 c181 c182 c183 c184 c185 c186 c187 c188 c189 c190 c191 c192 c193 c194 c195 c196 c197 c198 c199 c200 c201 c202 c203 c204 c205 c206 c207 c208 c209 c210 c211 c212 c213 c214 c215 c216 c217 c218 c219 c220 c221 c222 c223 c224 c225 c226 c227 c228 c229 c230 c231 c232 c233 c234 c235 c236 c237 c238 c239 c240 c241 c242 c243 c244 c245 c246 c247 c248 c249 c250 c251 c252 c253 c254 c255 c256 c257 c258 c259 c260 c261 c262 c263 c264 c265 c266 c267 c268 c269 c270 c271 c272 c273 c274 c275 c276 c277 c278 c279 c280 c281 c282 c283 c284 c285 c286 c287 c288 c289 c290 c291 c292 c293 c294 c295 c296 c297 c298 c299 c300 c301 c302 c303 c304 c305 c306 c307 c308 c309 c310 c311 c312 c313 c314 c315 c316 c317 c318 c319 c320 c321 c322 c323 c324 c325 c326 c327 c328 c329 c330 c331 c332 c333 c334 c335 c336 c337 c338 c339 : Value) (hb : base ≤ w.heap.size) (hm : d.k.m ≤ 500000) (_hnl : d.nl ≤ 500000) (_hns : d.ns ≤ 500000) (hnow : M.now ≤ 1000000) (_hsn : since ≤ 500000) (_hpr : 20 ≤ c.pr ∧ c.pr ≤ 1000) (H : Hid (Day w base c d M lots side since hands)) (HI : Hid (DayInv M lots side since hands)) (HB2 : Hid (Below w.heap.size w w2)) (HX2 : Hid (w2.heap[w.heap.size]? = some (.cells #[.int .i64 what, .int .i64 o.id, .int .i64 o.side, .int .i64 o.kind, .int .i64 o.price, .int .i64 o.qty] 80 (0, 0)))) (hP : ∀ (x : List PanicEntry) (a a' : Act) (w : World), a.defers = a'.defers → Q (.panic x) a w → Q (.panic x) a' w) (hwh : what = 1 ∨ what = 2 ∨ what = 3 ∨ what = 4)
    (hQ : ∀ (e9 e10 e11 e12 e13 e14 e36 e37 e38 e39 e40 e41 e42 e43 e44 e45 e46 e47 e48 e49 e50 e51 e52 e53 e54 e55 e56 e57 e58 e59 e60 e61 e62 e63 e64 e65 e66 e67 e68 e69 e70 e71 e72 e73 e74 e75 e76 e77 e78 e79 e80 e81 e82 e83 e84 e85 e86 e87 e88 e89 e90 e91 e92 e93 e94 e95 e96 e97 e98 e99 e100 e101 e102 e103 e104 e105 e106 e107 e108 e109 e110 e111 e112 e113 e114 e115 e116 e117 e118 e119 e120 e121 e122 e123 e124 e125 e126 e127 e128 e129 e130 e131 e132 e133 e134 e135 e136 e137 e138 e139 e140 e141 e142 e143 e144 e145 e146 e147 e148 e149 e150 : Value) (wd : World), (DoMid w base c d M since what e9 wd ∧ wd.heap[w.heap.size]? = some (.cells #[.int .i64 what, .int .i64 o.id, .int .i64 o.side, .int .i64 o.kind, .int .i64 o.price, .int .i64 o.qty] 80 (0, 0))) → Q .normal ⟨#[.pointer (some ⟨d.db, 0, none⟩), c1, c2, .pointer (some ⟨w.heap.size, 0, none⟩), .bool false, .pointer (some ⟨d.eb, 0, none⟩), .int .i64 M.ph, c7, c8, e9, e10, e11, e12, e13, e14, c15, c16, c17, c18, c19, c20, c21, c22, c23, c24, c25, c26, c27, c28, c29, c30, c31, c32, c33, c34, .int .i64 what, e36, e37, e38, e39, e40, e41, e42, e43, e44, e45, e46, e47, e48, e49, e50, e51, e52, e53, e54, e55, e56, e57, e58, e59, e60, e61, e62, e63, e64, e65, e66, e67, e68, e69, e70, e71, e72, e73, e74, e75, e76, e77, e78, e79, e80, e81, e82, e83, e84, e85, e86, e87, e88, e89, e90, e91, e92, e93, e94, e95, e96, e97, e98, e99, e100, e101, e102, e103, e104, e105, e106, e107, e108, e109, e110, e111, e112, e113, e114, e115, e116, e117, e118, e119, e120, e121, e122, e123, e124, e125, e126, e127, e128, e129, e130, e131, e132, e133, e134, e135, e136, e137, e138, e139, e140, e141, e142, e143, e144, e145, e146, e147, e148, e149, e150, c151, c152, c153, c154, c155, c156, c157, c158, c159, c160, c161, c162, c163, c164, c165, c166, c167, c168, c169, c170, c171, c172, c173, c174, c175, c176, c177, c178, c179, c180, c181, c182, c183, c184, c185, c186, c187, c188, c189, c190, c191, c192, c193, c194, c195, c196, c197, c198, c199, c200, c201, c202, c203, c204, c205, c206, c207, c208, c209, c210, c211, c212, c213, c214, c215, c216, c217, c218, c219, c220, c221, c222, c223, c224, c225, c226, c227, c228, c229, c230, c231, c232, c233, c234, c235, c236, c237, c238, c239, c240, c241, c242, c243, c244, c245, c246, c247, c248, c249, c250, c251, c252, c253, c254, c255, c256, c257, c258, c259, c260, c261, c262, c263, c264, c265, c266, c267, c268, c269, c270, c271, c272, c273, c274, c275, c276, c277, c278, c279, c280, c281, c282, c283, c284, c285, c286, c287, c288, c289, c290, c291, c292, c293, c294, c295, c296, c297, c298, c299, c300, c301, c302, c303, c304, c305, c306, c307, c308, c309, c310, c311, c312, c313, c314, c315, c316, c317, c318, c319, c320, c321, c322, c323, c324, c325, c326, c327, c328, c329, c330, c331, c332, c333, c334, c335, c336, c337, c338, c339], []⟩ wd) :
    Code.wp Tryz.prog doC Q ⟨#[.pointer (some ⟨d.db, 0, none⟩), c1, c2, .pointer (some ⟨w.heap.size, 0, none⟩), .bool false, .pointer (some ⟨d.eb, 0, none⟩), .int .i64 M.ph, c7, c8, .slice none 0 0, c10, c11, c12, c13, c14, c15, c16, c17, c18, c19, c20, c21, c22, c23, c24, c25, c26, c27, c28, c29, c30, c31, c32, c33, c34, .int .i64 what, c36, c37, c38, c39, c40, c41, c42, c43, c44, c45, c46, c47, c48, c49, c50, c51, c52, c53, c54, c55, c56, c57, c58, c59, c60, c61, c62, c63, c64, c65, c66, c67, c68, c69, c70, c71, c72, c73, c74, c75, c76, c77, c78, c79, c80, c81, c82, c83, c84, c85, c86, c87, c88, c89, c90, c91, c92, c93, c94, c95, c96, c97, c98, c99, c100, c101, c102, c103, c104, c105, c106, c107, c108, c109, c110, c111, c112, c113, c114, c115, c116, c117, c118, c119, c120, c121, c122, c123, c124, c125, c126, c127, c128, c129, c130, c131, c132, c133, c134, c135, c136, c137, c138, c139, c140, c141, c142, c143, c144, c145, c146, c147, c148, c149, c150, c151, c152, c153, c154, c155, c156, c157, c158, c159, c160, c161, c162, c163, c164, c165, c166, c167, c168, c169, c170, c171, c172, c173, c174, c175, c176, c177, c178, c179, c180, c181, c182, c183, c184, c185, c186, c187, c188, c189, c190, c191, c192, c193, c194, c195, c196, c197, c198, c199, c200, c201, c202, c203, c204, c205, c206, c207, c208, c209, c210, c211, c212, c213, c214, c215, c216, c217, c218, c219, c220, c221, c222, c223, c224, c225, c226, c227, c228, c229, c230, c231, c232, c233, c234, c235, c236, c237, c238, c239, c240, c241, c242, c243, c244, c245, c246, c247, c248, c249, c250, c251, c252, c253, c254, c255, c256, c257, c258, c259, c260, c261, c262, c263, c264, c265, c266, c267, c268, c269, c270, c271, c272, c273, c274, c275, c276, c277, c278, c279, c280, c281, c282, c283, c284, c285, c286, c287, c288, c289, c290, c291, c292, c293, c294, c295, c296, c297, c298, c299, c300, c301, c302, c303, c304, c305, c306, c307, c308, c309, c310, c311, c312, c313, c314, c315, c316, c317, c318, c319, c320, c321, c322, c323, c324, c325, c326, c327, c328, c329, c330, c331, c332, c333, c334, c335, c336, c337, c338, c339], []⟩ w2 := by
  conv => arg 2; whnf
  have HQ : Hid (∀ (e9 e10 e11 e12 e13 e14 e36 e37 e38 e39 e40 e41 e42 e43 e44 e45 e46 e47 e48 e49 e50 e51 e52 e53 e54 e55 e56 e57 e58 e59 e60 e61 e62 e63 e64 e65 e66 e67 e68 e69 e70 e71 e72 e73 e74 e75 e76 e77 e78 e79 e80 e81 e82 e83 e84 e85 e86 e87 e88 e89 e90 e91 e92 e93 e94 e95 e96 e97 e98 e99 e100 e101 e102 e103 e104 e105 e106 e107 e108 e109 e110 e111 e112 e113 e114 e115 e116 e117 e118 e119 e120 e121 e122 e123 e124 e125 e126 e127 e128 e129 e130 e131 e132 e133 e134 e135 e136 e137 e138 e139 e140 e141 e142 e143 e144 e145 e146 e147 e148 e149 e150 : Value) (wd : World), (DoMid w base c d M since what e9 wd ∧ wd.heap[w.heap.size]? = some (.cells #[.int .i64 what, .int .i64 o.id, .int .i64 o.side, .int .i64 o.kind, .int .i64 o.price, .int .i64 o.qty] 80 (0, 0))) → Q .normal ⟨#[.pointer (some ⟨d.db, 0, none⟩), c1, c2, .pointer (some ⟨w.heap.size, 0, none⟩), .bool false, .pointer (some ⟨d.eb, 0, none⟩), .int .i64 M.ph, c7, c8, e9, e10, e11, e12, e13, e14, c15, c16, c17, c18, c19, c20, c21, c22, c23, c24, c25, c26, c27, c28, c29, c30, c31, c32, c33, c34, .int .i64 what, e36, e37, e38, e39, e40, e41, e42, e43, e44, e45, e46, e47, e48, e49, e50, e51, e52, e53, e54, e55, e56, e57, e58, e59, e60, e61, e62, e63, e64, e65, e66, e67, e68, e69, e70, e71, e72, e73, e74, e75, e76, e77, e78, e79, e80, e81, e82, e83, e84, e85, e86, e87, e88, e89, e90, e91, e92, e93, e94, e95, e96, e97, e98, e99, e100, e101, e102, e103, e104, e105, e106, e107, e108, e109, e110, e111, e112, e113, e114, e115, e116, e117, e118, e119, e120, e121, e122, e123, e124, e125, e126, e127, e128, e129, e130, e131, e132, e133, e134, e135, e136, e137, e138, e139, e140, e141, e142, e143, e144, e145, e146, e147, e148, e149, e150, c151, c152, c153, c154, c155, c156, c157, c158, c159, c160, c161, c162, c163, c164, c165, c166, c167, c168, c169, c170, c171, c172, c173, c174, c175, c176, c177, c178, c179, c180, c181, c182, c183, c184, c185, c186, c187, c188, c189, c190, c191, c192, c193, c194, c195, c196, c197, c198, c199, c200, c201, c202, c203, c204, c205, c206, c207, c208, c209, c210, c211, c212, c213, c214, c215, c216, c217, c218, c219, c220, c221, c222, c223, c224, c225, c226, c227, c228, c229, c230, c231, c232, c233, c234, c235, c236, c237, c238, c239, c240, c241, c242, c243, c244, c245, c246, c247, c248, c249, c250, c251, c252, c253, c254, c255, c256, c257, c258, c259, c260, c261, c262, c263, c264, c265, c266, c267, c268, c269, c270, c271, c272, c273, c274, c275, c276, c277, c278, c279, c280, c281, c282, c283, c284, c285, c286, c287, c288, c289, c290, c291, c292, c293, c294, c295, c296, c297, c298, c299, c300, c301, c302, c303, c304, c305, c306, c307, c308, c309, c310, c311, c312, c313, c314, c315, c316, c317, c318, c319, c320, c321, c322, c323, c324, c325, c326, c327, c328, c329, c330, c331, c332, c333, c334, c335, c336, c337, c338, c339], []⟩ wd) := hQ
  have HP : Hid (∀ (x : List PanicEntry) (a a' : Act) (w : World), a.defers = a'.defers → Q (.panic x) a w → Q (.panic x) a' w) := hP
  clear hQ hP
  have H2 : Hid (Day w2 base c d M lots side since hands) := H.out.below HB2.out
  have x0 : w2.cell? ⟨w.heap.size, 0, none⟩ = some (.int .i64 what) := blk_cell (j := 0) HX2.out rfl
  have HLK : Hid (LOk M.L) := H2.out.eg.lok
  have HF1 : Hid (M.L.length ≤ 100) := H2.out.eg.few100
  have HNUM : Hid (MNum M) := HI.out.num (by omega)
  have hb2 : base ≤ w2.heap.size := Nat.le_trans hb HB2.out.size
  have HBB : Hid (Below base w w2) := HB2.out.mono hb
  have e0 : what ≠ 0 := by omega
  have n0 : (what == 0) = false := beq_eq_false_iff_ne.2 e0
  by_cases e1 : what = 1
  · have n1 : (what == 1) = true := beq_iff_eq.2 e1
    have x1 : w2.cell? ⟨w.heap.size, 1, none⟩ = some (.int .i64 o.id) := blk_cell (j := 1) HX2.out rfl
    have HE1 : Hid (what = 1) := e1
    have hpk := pickE_in o.id 500 (by decide)
    have wr : IntKind.i64.wrap (1 + pickE o.id 500) = 1 + pickE o.id 500 := IntWalk.i64_in _ (by omega)
    clear e0 e1
    go_wp2_with fail
    refine (drPick o.id 500 w2 (by decide)).mono ?_
    rintro e w2' ⟨rfl, hw⟩
    subst hw
    go_wp2_with fail
    refine (egCancel d.eb d.k M (1 + pickE o.id 500) w2' H2.out.eg (by have := HI.out.few; omega) (WalkArith.wf_i64 (by omega)) (by omega)).mono ?_
    rintro e w3 ⟨err, k3, rfl, _, hg, hk⟩
    have HM : Hid (DoMid w base c d M since what (.slice none 0 0) w3 ∧ w3.heap[w.heap.size]? = some (.cells #[.int .i64 what, .int .i64 o.id, .int .i64 o.side, .int .i64 o.kind, .int .i64 o.price, .int .i64 o.qty] 80 (0, 0))) := by
      refine ⟨⟨{ d with k := k3 }, canM M (1 + pickE o.id 500), lots, side, hands, [], H2.out.ofEg hg hb2 (canM_same M _).1, World.ownsRow_nil _ _ _ _, trivial, HI.out.lb, Nat.zero_le _, ?_, fun e => absurd (e.symm.trans HE1.out) (by decide), ⟨rfl, rfl⟩, hk, Nat.le_succ _, Nat.le_succ _, NowGo.same (canM_same M _).2, HBB.out.trans (H2.out.belGo hg hb2)⟩, blk_out HX2.out hg.2.1 (fun e => ?_)⟩
      · rw [if_neg (by rw [HE1.out]; decide)]
        exact HI.out.cancel _
      · exact absurd (H.out.eg.lt e) (by omega)
    clear hg
    go_wp2_with fail
    exact HQ.out _ _ _ _ _ _ _ _ _ _ _ _ _ _ _ _ _ _ _ _ _ _ _ _ _ _ _ _ _ _ _ _ _ _ _ _ _ _ _ _ _ _ _ _ _ _ _ _ _ _ _ _ _ _ _ _ _ _ _ _ _ _ _ _ _ _ _ _ _ _ _ _ _ _ _ _ _ _ _ _ _ _ _ _ _ _ _ _ _ _ _ _ _ _ _ _ _ _ _ _ _ _ _ _ _ _ _ _ _ _ _ _ _ _ _ _ _ _ _ _ _ _ HM.out
  have n1 : (what == 1) = false := beq_eq_false_iff_ne.2 e1
  by_cases e2 : what = 2
  · have n2 : (what == 2) = true := beq_iff_eq.2 e2
    have HE2 : Hid (what = 2) := e2
    clear e0 e1 e2
    go_wp2_with fail
    refine (egTick d.eb d.k M w2 H2.out.eg HNUM.out HI.out.auct (by omega)).mono ?_
    rintro e w3 ⟨vf, err, rfl, he, k3, hr, hg, hk⟩
    have HM : Hid (DoMid w base c d M since what vf w3 ∧ w3.heap[w.heap.size]? = some (.cells #[.int .i64 what, .int .i64 o.id, .int .i64 o.side, .int .i64 o.kind, .int .i64 o.price, .int .i64 o.qty] 80 (0, 0))) := by
      obtain ⟨t1, t2⟩ := HI.out.tick HLK.out
      obtain ⟨t3, t4, t5⟩ := tickM_len HLK.out HF1.out
      refine ⟨⟨{ d with k := k3 }, (tickM M).2, lots, side, hands, (tickM M).1, H2.out.ofEg hg hb2 t4, owns_base hr HB2.out.size, t1, HI.out.lb, t3, ?_, fun e => absurd (e.symm.trans HE2.out) (by decide), ⟨rfl, rfl⟩, hk, Nat.le_succ _, Nat.le_succ _, ⟨t5, fun e => by unfold tickM; rw [if_pos e]⟩, HBB.out.trans (H2.out.belGo hg hb2)⟩, blk_out HX2.out hg.2.1 (fun e => ?_)⟩
      · rw [if_pos HE2.out]; exact t2
      · exact absurd (H.out.eg.lt e) (by omega)
    have HTN : Hid (tickN M = if M.ph = 7 then 6 else 0) := rfl
    clear hg hr hk
    rcases he with ⟨rfl, h0⟩ | ⟨rfl, h0⟩
    · have h7 : M.ph ≠ 7 := fun e => by rw [HTN.out, if_pos e] at h0; cases h0
      have n7 : (M.ph == 7) = false := beq_eq_false_iff_ne.2 h7
      clear h0 h7
      go_wp2_with fail
      exact HQ.out _ _ _ _ _ _ _ _ _ _ _ _ _ _ _ _ _ _ _ _ _ _ _ _ _ _ _ _ _ _ _ _ _ _ _ _ _ _ _ _ _ _ _ _ _ _ _ _ _ _ _ _ _ _ _ _ _ _ _ _ _ _ _ _ _ _ _ _ _ _ _ _ _ _ _ _ _ _ _ _ _ _ _ _ _ _ _ _ _ _ _ _ _ _ _ _ _ _ _ _ _ _ _ _ _ _ _ _ _ _ _ _ _ _ _ _ _ _ _ _ _ _ HM.out
    · have h7 : M.ph = 7 := Classical.byContradiction (fun e => h0 (by rw [HTN.out, if_neg e]))
      have n7 : (M.ph == 7) = true := beq_iff_eq.2 h7
      clear h0 h7
      go_wp2_with fail
      exact HQ.out _ _ _ _ _ _ _ _ _ _ _ _ _ _ _ _ _ _ _ _ _ _ _ _ _ _ _ _ _ _ _ _ _ _ _ _ _ _ _ _ _ _ _ _ _ _ _ _ _ _ _ _ _ _ _ _ _ _ _ _ _ _ _ _ _ _ _ _ _ _ _ _ _ _ _ _ _ _ _ _ _ _ _ _ _ _ _ _ _ _ _ _ _ _ _ _ _ _ _ _ _ _ _ _ _ _ _ _ _ _ _ _ _ _ _ _ _ _ _ _ _ _ HM.out
  have n2 : (what == 2) = false := beq_eq_false_iff_ne.2 e2
  by_cases e3 : what = 3
  · have n3 : (what == 3) = true := beq_iff_eq.2 e3
    have HE : Hid (what = 3) := e3
    have c10 : w2.cell? ⟨d.db, 10, none⟩ = some (.bool hands) := blk_cell (j := 10) H2.out.box rfl
    have f10 := blk_free (j := 10) H2.out.box
    clear e0 e1 e2 e3
    cases hands with
    | true =>
      have HM : Hid (DoMid w base c d M since what (.slice none 0 0) (w2.setCell ⟨d.db, 10, none⟩ (.bool true)) ∧ (w2.setCell ⟨d.db, 10, none⟩ (.bool true)).heap[w.heap.size]? = some (.cells #[.int .i64 what, .int .i64 o.id, .int .i64 o.side, .int .i64 o.kind, .int .i64 o.price, .int .i64 o.qty] 80 (0, 0))) := by
        have ho := out_set w2 ⟨d.db, 10, none⟩ (.bool true)
        refine ⟨⟨d, M, lots, side, true, [], H2.out.write (since' := since) (hands' := true) rfl, World.ownsRow_nil _ _ _ _, trivial, HI.out.lb, Nat.zero_le _, ?_, fun e => absurd (e.symm.trans HE.out) (by decide), ⟨rfl, rfl⟩, Nat.le_add_right _ _, Nat.le_succ _, Nat.le_succ _, NowGo.same rfl, HBB.out.trans (H2.out.mine ho (fun j hj => by rw [show j = d.db from hj]; exact H.out.own _ (Or.inr (Or.inl rfl))) hb2)⟩, blk_out HX2.out ho (fun e => ?_)⟩
        · rw [if_neg (by rw [HE.out]; decide), sinceN_same HI.out rfl]; exact HI.out
        · have e' : w.heap.size = d.db := e
          have := lt_of_block H.out.box
          omega
      go_wp2_with fail
      exact HQ.out _ _ _ _ _ _ _ _ _ _ _ _ _ _ _ _ _ _ _ _ _ _ _ _ _ _ _ _ _ _ _ _ _ _ _ _ _ _ _ _ _ _ _ _ _ _ _ _ _ _ _ _ _ _ _ _ _ _ _ _ _ _ _ _ _ _ _ _ _ _ _ _ _ _ _ _ _ _ _ _ _ _ _ _ _ _ _ _ _ _ _ _ _ _ _ _ _ _ _ _ _ _ _ _ _ _ _ _ _ _ _ _ _ _ _ _ _ _ _ _ _ _ HM.out
    | false =>
      go_wp2_with fail
      refine (egHalt d.eb d.k M w2 H2.out.eg).mono ?_
      rintro e w3 ⟨err, rfl, he, hg⟩
      obtain ⟨k3, ek3⟩ : ∃ k3, k3 = d.k := ⟨_, rfl⟩
      have hk : k3.m ≤ d.k.m + 302 := by rw [ek3]; exact Nat.le_add_right _ _
      have hg : EgGo w2 w3 d.eb d.k k3 (haltM M) := by rw [ek3]; exact hg
      have h3 := H2.out.ofEg hg hb2 (haltM_same M).1
      have d10 : w3.cell? ⟨d.db, 10, none⟩ = some (.bool false) := blk_cell (j := 10) h3.box rfl
      have g10 := blk_free (j := 10) h3.box
      have hb3 : base ≤ w3.heap.size := Nat.le_trans hb2 hg.2.1.size
      have HM : Hid (∀ b : Bool, b = decide (haltN M = 0) → DoMid w base c d M since what (.slice none 0 0) (w3.setCell ⟨d.db, 10, none⟩ (.bool b)) ∧ (w3.setCell ⟨d.db, 10, none⟩ (.bool b)).heap[w.heap.size]? = some (.cells #[.int .i64 what, .int .i64 o.id, .int .i64 o.side, .int .i64 o.kind, .int .i64 o.price, .int .i64 o.qty] 80 (0, 0))) := by
        intro b hbe
        have ho := out_set w3 ⟨d.db, 10, none⟩ (.bool b)
        refine ⟨⟨{ d with k := k3 }, haltM M, lots, side, b, [], h3.write (since' := since) (hands' := b) rfl, World.ownsRow_nil _ _ _ _, trivial, HI.out.lb, Nat.zero_le _, ?_, fun e => absurd (e.symm.trans HE.out) (by decide), ⟨rfl, rfl⟩, hk, Nat.le_succ _, Nat.le_succ _, NowGo.same (haltM_same M).2, (HBB.out.trans (H2.out.belGo hg hb2)).trans (h3.mine ho (fun j hj => by rw [show j = d.db from hj]; exact H.out.own _ (Or.inr (Or.inl rfl))) hb3)⟩, blk_out (blk_out HX2.out hg.2.1 (fun e => ?_)) ho (fun e => ?_)⟩
        · rw [if_neg (by rw [HE.out]; decide), hbe]; exact HI.out.halt
        · exact absurd (H.out.eg.lt e) (by omega)
        · have e' : w.heap.size = d.db := e
          have := lt_of_block H.out.box
          omega
      clear hg h3
      rcases he with ⟨rfl, h0⟩ | ⟨rfl, h0⟩
      · have hm1 := HM.out true (by simp [h0])
        have HM1 : Hid _ := hm1
        clear hm1 HM h0
        go_wp2_with fail
        exact HQ.out _ _ _ _ _ _ _ _ _ _ _ _ _ _ _ _ _ _ _ _ _ _ _ _ _ _ _ _ _ _ _ _ _ _ _ _ _ _ _ _ _ _ _ _ _ _ _ _ _ _ _ _ _ _ _ _ _ _ _ _ _ _ _ _ _ _ _ _ _ _ _ _ _ _ _ _ _ _ _ _ _ _ _ _ _ _ _ _ _ _ _ _ _ _ _ _ _ _ _ _ _ _ _ _ _ _ _ _ _ _ _ _ _ _ _ _ _ _ _ _ _ _ HM1.out
      · have hm1 := HM.out false (by simp [h0])
        have HM1 : Hid _ := hm1
        clear hm1 HM h0
        go_wp2_with fail
        exact HQ.out _ _ _ _ _ _ _ _ _ _ _ _ _ _ _ _ _ _ _ _ _ _ _ _ _ _ _ _ _ _ _ _ _ _ _ _ _ _ _ _ _ _ _ _ _ _ _ _ _ _ _ _ _ _ _ _ _ _ _ _ _ _ _ _ _ _ _ _ _ _ _ _ _ _ _ _ _ _ _ _ _ _ _ _ _ _ _ _ _ _ _ _ _ _ _ _ _ _ _ _ _ _ _ _ _ _ _ _ _ _ _ _ _ _ _ _ _ _ _ _ _ _ HM1.out
  have n3 : (what == 3) = false := beq_eq_false_iff_ne.2 e3
  by_cases e4 : what = 4
  · have n4 : (what == 4) = true := beq_iff_eq.2 e4
    have HE : Hid (what = 4) := e4
    have c10 : w2.cell? ⟨d.db, 10, none⟩ = some (.bool hands) := blk_cell (j := 10) H2.out.box rfl
    have f10 := blk_free (j := 10) H2.out.box
    clear e0 e1 e2 e3 e4
    cases hands with
    | true =>
      have HM : Hid (DoMid w base c d M since what (.slice none 0 0) (w2.setCell ⟨d.db, 10, none⟩ (.bool true)) ∧ (w2.setCell ⟨d.db, 10, none⟩ (.bool true)).heap[w.heap.size]? = some (.cells #[.int .i64 what, .int .i64 o.id, .int .i64 o.side, .int .i64 o.kind, .int .i64 o.price, .int .i64 o.qty] 80 (0, 0))) := by
        have ho := out_set w2 ⟨d.db, 10, none⟩ (.bool true)
        refine ⟨⟨d, M, lots, side, true, [], H2.out.write (since' := since) (hands' := true) rfl, World.ownsRow_nil _ _ _ _, trivial, HI.out.lb, Nat.zero_le _, ?_, fun e => absurd (e.symm.trans HE.out) (by decide), ⟨rfl, rfl⟩, Nat.le_add_right _ _, Nat.le_succ _, Nat.le_succ _, NowGo.same rfl, HBB.out.trans (H2.out.mine ho (fun j hj => by rw [show j = d.db from hj]; exact H.out.own _ (Or.inr (Or.inl rfl))) hb2)⟩, blk_out HX2.out ho (fun e => ?_)⟩
        · rw [if_neg (by rw [HE.out]; decide), sinceN_same HI.out rfl]; exact HI.out
        · have e' : w.heap.size = d.db := e
          have := lt_of_block H.out.box
          omega
      go_wp2_with fail
      exact HQ.out _ _ _ _ _ _ _ _ _ _ _ _ _ _ _ _ _ _ _ _ _ _ _ _ _ _ _ _ _ _ _ _ _ _ _ _ _ _ _ _ _ _ _ _ _ _ _ _ _ _ _ _ _ _ _ _ _ _ _ _ _ _ _ _ _ _ _ _ _ _ _ _ _ _ _ _ _ _ _ _ _ _ _ _ _ _ _ _ _ _ _ _ _ _ _ _ _ _ _ _ _ _ _ _ _ _ _ _ _ _ _ _ _ _ _ _ _ _ _ _ _ _ HM.out
    | false =>
      go_wp2_with fail
      refine (egOpen d.eb d.k M w2 H2.out.eg HNUM.out (by omega)).mono ?_
      rintro e w3 ⟨err, k3, rfl, he, hg, hk⟩
      have h3 := H2.out.ofEg hg hb2 (openM_same M).1
      have d10 : w3.cell? ⟨d.db, 10, none⟩ = some (.bool false) := blk_cell (j := 10) h3.box rfl
      have g10 := blk_free (j := 10) h3.box
      have hb3 : base ≤ w3.heap.size := Nat.le_trans hb2 hg.2.1.size
      have HM : Hid (∀ b : Bool, b = decide (openN M = 0) → DoMid w base c d M since what (.slice none 0 0) (w3.setCell ⟨d.db, 10, none⟩ (.bool b)) ∧ (w3.setCell ⟨d.db, 10, none⟩ (.bool b)).heap[w.heap.size]? = some (.cells #[.int .i64 what, .int .i64 o.id, .int .i64 o.side, .int .i64 o.kind, .int .i64 o.price, .int .i64 o.qty] 80 (0, 0))) := by
        intro b hbe
        have ho := out_set w3 ⟨d.db, 10, none⟩ (.bool b)
        refine ⟨⟨{ d with k := k3 }, openM M, lots, side, b, [], h3.write (since' := since) (hands' := b) rfl, World.ownsRow_nil _ _ _ _, trivial, HI.out.lb, Nat.zero_le _, ?_, fun e => absurd (e.symm.trans HE.out) (by decide), ⟨rfl, rfl⟩, hk, Nat.le_succ _, Nat.le_succ _, NowGo.same (openM_same M).2, (HBB.out.trans (H2.out.belGo hg hb2)).trans (h3.mine ho (fun j hj => by rw [show j = d.db from hj]; exact H.out.own _ (Or.inr (Or.inl rfl))) hb3)⟩, blk_out (blk_out HX2.out hg.2.1 (fun e => ?_)) ho (fun e => ?_)⟩
        · rw [if_neg (by rw [HE.out]; decide), hbe]; exact HI.out.open_
        · exact absurd (H.out.eg.lt e) (by omega)
        · have e' : w.heap.size = d.db := e
          have := lt_of_block H.out.box
          omega
      clear hg h3
      rcases he with ⟨rfl, h0⟩ | ⟨rfl, h0⟩
      · have hm1 := HM.out true (by simp [h0])
        have HM1 : Hid _ := hm1
        clear hm1 HM h0
        go_wp2_with fail
        exact HQ.out _ _ _ _ _ _ _ _ _ _ _ _ _ _ _ _ _ _ _ _ _ _ _ _ _ _ _ _ _ _ _ _ _ _ _ _ _ _ _ _ _ _ _ _ _ _ _ _ _ _ _ _ _ _ _ _ _ _ _ _ _ _ _ _ _ _ _ _ _ _ _ _ _ _ _ _ _ _ _ _ _ _ _ _ _ _ _ _ _ _ _ _ _ _ _ _ _ _ _ _ _ _ _ _ _ _ _ _ _ _ _ _ _ _ _ _ _ _ _ _ _ _ HM1.out
      · have hm1 := HM.out false (by simp [h0])
        have HM1 : Hid _ := hm1
        clear hm1 HM h0
        go_wp2_with fail
        exact HQ.out _ _ _ _ _ _ _ _ _ _ _ _ _ _ _ _ _ _ _ _ _ _ _ _ _ _ _ _ _ _ _ _ _ _ _ _ _ _ _ _ _ _ _ _ _ _ _ _ _ _ _ _ _ _ _ _ _ _ _ _ _ _ _ _ _ _ _ _ _ _ _ _ _ _ _ _ _ _ _ _ _ _ _ _ _ _ _ _ _ _ _ _ _ _ _ _ _ _ _ _ _ _ _ _ _ _ _ _ _ _ _ _ _ _ _ _ _ _ _ _ _ _ HM1.out
  exact absurd hwh (by omega)
set_option maxRecDepth 100000 in
theorem doSw (base : Nat) (c : DCfg) (d : DayK) (M : Mkt) (lots side : Int → Int) (since : Int) (hands : Bool) (what : Int) (o : Ord) (w w2 : World) (Q : Exit → Act → World → Prop) (c1 c2 c7 c8 c10 c11 c12 c13 c14 c15 c16 c17 c18 c19 c20 c21 c22 c23 c24 c25 c26 c27 c28 c29 c30 c31 c32 c33 c34 c36 c37 c38 c39 c40 c41 c42 c43 c44 c45 c46 c47 c48 c49 c50 c51 c52 c53 c54 c55 c56 c57 c58 c59 c60 c61 c62 c63 c64 c65 c66 c67 c68 c69 c70 c71 c72 c73 c74 c75 c76 c77 c78 c79 c80 c81 c82 c83 c84 c85 c86 c87 c88 c89 c90 c91 c92 c93 c94 c95 c96 c97 c98 c99 c100 c101 c102 c103 c104 c105 c106 c107 c108 c109 c110 c111 c112 c113 c114 c115 c116 c117 c118 c119 c120 c121 c122 c123 c124 c125 c126 c127 c128 c129 c130 c131 c132 c133 c134 c135 c136 c137 c138 c139 c140 c141 c142 c143 c144 c145 c146 c147 c148 c149 c150 c151 c152 c153 c154 c155 c156 c157 c158 c159 c160 c161 c162 c163 c164 c165 c166 c167 c168 c169 c170 c171 c172 c173 c174 c175 c176 c177 c178 c179 c180 c181 c182 c183 c184 c185 c186 c187 c188 c189 c190 c191 c192 c193 c194 c195 c196 c197 c198 c199 c200 c201 c202 c203 c204 c205 c206 c207 c208 c209 c210 c211 c212 c213 c214 c215 c216 c217 c218 c219 c220 c221 c222 c223 c224 c225 c226 c227 c228 c229 c230 c231 c232 c233 c234 c235 c236 c237 c238 c239 c240 c241 c242 c243 c244 c245 c246 c247 c248 c249 c250 c251 c252 c253 c254 c255 c256 c257 c258 c259 c260 c261 c262 c263 c264 c265 c266 c267 c268 c269 c270 c271 c272 c273 c274 c275 c276 c277 c278 c279 c280 c281 c282 c283 c284 c285 c286 c287 c288 c289 c290 c291 c292 c293 c294 c295 c296 c297 c298 c299 c300 c301 c302 c303 c304 c305 c306 c307 c308 c309 c310 c311 c312 c313 c314 c315 c316 c317 c318 c319 c320 c321 c322 c323 c324 c325 c326 c327 c328 c329 c330 c331 c332 c333 c334 c335 c336 c337 c338 c339 : Value) (hb : base ≤ w.heap.size) (hm : d.k.m ≤ 500000) (hnl : d.nl ≤ 500000) (hns : d.ns ≤ 500000) (hnow : M.now ≤ 1000000) (hsn : since ≤ 500000) (hpr : 20 ≤ c.pr ∧ c.pr ≤ 1000) (H : Hid (Day w base c d M lots side since hands)) (HI : Hid (DayInv M lots side since hands)) (HB2 : Hid (Below w.heap.size w w2)) (HX2 : Hid (w2.heap[w.heap.size]? = some (.cells #[.int .i64 what, .int .i64 o.id, .int .i64 o.side, .int .i64 o.kind, .int .i64 o.price, .int .i64 o.qty] 80 (0, 0)))) (hP : ∀ (x : List PanicEntry) (a a' : Act) (w : World), a.defers = a'.defers → Q (.panic x) a w → Q (.panic x) a' w) (hwh : what = 0 ∨ what = 1 ∨ what = 2 ∨ what = 3 ∨ what = 4)
    (hQ : ∀ (e9 e10 e11 e12 e13 e14 e36 e37 e38 e39 e40 e41 e42 e43 e44 e45 e46 e47 e48 e49 e50 e51 e52 e53 e54 e55 e56 e57 e58 e59 e60 e61 e62 e63 e64 e65 e66 e67 e68 e69 e70 e71 e72 e73 e74 e75 e76 e77 e78 e79 e80 e81 e82 e83 e84 e85 e86 e87 e88 e89 e90 e91 e92 e93 e94 e95 e96 e97 e98 e99 e100 e101 e102 e103 e104 e105 e106 e107 e108 e109 e110 e111 e112 e113 e114 e115 e116 e117 e118 e119 e120 e121 e122 e123 e124 e125 e126 e127 e128 e129 e130 e131 e132 e133 e134 e135 e136 e137 e138 e139 e140 e141 e142 e143 e144 e145 e146 e147 e148 e149 e150 : Value) (wd : World), (DoMid w base c d M since what e9 wd ∧ wd.heap[w.heap.size]? = some (.cells #[.int .i64 what, .int .i64 o.id, .int .i64 o.side, .int .i64 o.kind, .int .i64 o.price, .int .i64 o.qty] 80 (0, 0))) → Q .normal ⟨#[.pointer (some ⟨d.db, 0, none⟩), c1, c2, .pointer (some ⟨w.heap.size, 0, none⟩), .bool false, .pointer (some ⟨d.eb, 0, none⟩), .int .i64 M.ph, c7, c8, e9, e10, e11, e12, e13, e14, c15, c16, c17, c18, c19, c20, c21, c22, c23, c24, c25, c26, c27, c28, c29, c30, c31, c32, c33, c34, .int .i64 what, e36, e37, e38, e39, e40, e41, e42, e43, e44, e45, e46, e47, e48, e49, e50, e51, e52, e53, e54, e55, e56, e57, e58, e59, e60, e61, e62, e63, e64, e65, e66, e67, e68, e69, e70, e71, e72, e73, e74, e75, e76, e77, e78, e79, e80, e81, e82, e83, e84, e85, e86, e87, e88, e89, e90, e91, e92, e93, e94, e95, e96, e97, e98, e99, e100, e101, e102, e103, e104, e105, e106, e107, e108, e109, e110, e111, e112, e113, e114, e115, e116, e117, e118, e119, e120, e121, e122, e123, e124, e125, e126, e127, e128, e129, e130, e131, e132, e133, e134, e135, e136, e137, e138, e139, e140, e141, e142, e143, e144, e145, e146, e147, e148, e149, e150, c151, c152, c153, c154, c155, c156, c157, c158, c159, c160, c161, c162, c163, c164, c165, c166, c167, c168, c169, c170, c171, c172, c173, c174, c175, c176, c177, c178, c179, c180, c181, c182, c183, c184, c185, c186, c187, c188, c189, c190, c191, c192, c193, c194, c195, c196, c197, c198, c199, c200, c201, c202, c203, c204, c205, c206, c207, c208, c209, c210, c211, c212, c213, c214, c215, c216, c217, c218, c219, c220, c221, c222, c223, c224, c225, c226, c227, c228, c229, c230, c231, c232, c233, c234, c235, c236, c237, c238, c239, c240, c241, c242, c243, c244, c245, c246, c247, c248, c249, c250, c251, c252, c253, c254, c255, c256, c257, c258, c259, c260, c261, c262, c263, c264, c265, c266, c267, c268, c269, c270, c271, c272, c273, c274, c275, c276, c277, c278, c279, c280, c281, c282, c283, c284, c285, c286, c287, c288, c289, c290, c291, c292, c293, c294, c295, c296, c297, c298, c299, c300, c301, c302, c303, c304, c305, c306, c307, c308, c309, c310, c311, c312, c313, c314, c315, c316, c317, c318, c319, c320, c321, c322, c323, c324, c325, c326, c327, c328, c329, c330, c331, c332, c333, c334, c335, c336, c337, c338, c339], []⟩ wd) :
    Code.wp Tryz.prog doC Q ⟨#[.pointer (some ⟨d.db, 0, none⟩), c1, c2, .pointer (some ⟨w.heap.size, 0, none⟩), .bool false, .pointer (some ⟨d.eb, 0, none⟩), .int .i64 M.ph, c7, c8, .slice none 0 0, c10, c11, c12, c13, c14, c15, c16, c17, c18, c19, c20, c21, c22, c23, c24, c25, c26, c27, c28, c29, c30, c31, c32, c33, c34, .int .i64 what, c36, c37, c38, c39, c40, c41, c42, c43, c44, c45, c46, c47, c48, c49, c50, c51, c52, c53, c54, c55, c56, c57, c58, c59, c60, c61, c62, c63, c64, c65, c66, c67, c68, c69, c70, c71, c72, c73, c74, c75, c76, c77, c78, c79, c80, c81, c82, c83, c84, c85, c86, c87, c88, c89, c90, c91, c92, c93, c94, c95, c96, c97, c98, c99, c100, c101, c102, c103, c104, c105, c106, c107, c108, c109, c110, c111, c112, c113, c114, c115, c116, c117, c118, c119, c120, c121, c122, c123, c124, c125, c126, c127, c128, c129, c130, c131, c132, c133, c134, c135, c136, c137, c138, c139, c140, c141, c142, c143, c144, c145, c146, c147, c148, c149, c150, c151, c152, c153, c154, c155, c156, c157, c158, c159, c160, c161, c162, c163, c164, c165, c166, c167, c168, c169, c170, c171, c172, c173, c174, c175, c176, c177, c178, c179, c180, c181, c182, c183, c184, c185, c186, c187, c188, c189, c190, c191, c192, c193, c194, c195, c196, c197, c198, c199, c200, c201, c202, c203, c204, c205, c206, c207, c208, c209, c210, c211, c212, c213, c214, c215, c216, c217, c218, c219, c220, c221, c222, c223, c224, c225, c226, c227, c228, c229, c230, c231, c232, c233, c234, c235, c236, c237, c238, c239, c240, c241, c242, c243, c244, c245, c246, c247, c248, c249, c250, c251, c252, c253, c254, c255, c256, c257, c258, c259, c260, c261, c262, c263, c264, c265, c266, c267, c268, c269, c270, c271, c272, c273, c274, c275, c276, c277, c278, c279, c280, c281, c282, c283, c284, c285, c286, c287, c288, c289, c290, c291, c292, c293, c294, c295, c296, c297, c298, c299, c300, c301, c302, c303, c304, c305, c306, c307, c308, c309, c310, c311, c312, c313, c314, c315, c316, c317, c318, c319, c320, c321, c322, c323, c324, c325, c326, c327, c328, c329, c330, c331, c332, c333, c334, c335, c336, c337, c338, c339], []⟩ w2 := by
  rcases hwh with e0 | hwh
  · exact doOrd base c d M lots side since hands what o w w2 Q c1 c2 c7 c8 c10 c11 c12 c13 c14 c15 c16 c17 c18 c19 c20 c21 c22 c23 c24 c25 c26 c27 c28 c29 c30 c31 c32 c33 c34 c36 c37 c38 c39 c40 c41 c42 c43 c44 c45 c46 c47 c48 c49 c50 c51 c52 c53 c54 c55 c56 c57 c58 c59 c60 c61 c62 c63 c64 c65 c66 c67 c68 c69 c70 c71 c72 c73 c74 c75 c76 c77 c78 c79 c80 c81 c82 c83 c84 c85 c86 c87 c88 c89 c90 c91 c92 c93 c94 c95 c96 c97 c98 c99 c100 c101 c102 c103 c104 c105 c106 c107 c108 c109 c110 c111 c112 c113 c114 c115 c116 c117 c118 c119 c120 c121 c122 c123 c124 c125 c126 c127 c128 c129 c130 c131 c132 c133 c134 c135 c136 c137 c138 c139 c140 c141 c142 c143 c144 c145 c146 c147 c148 c149 c150 c151 c152 c153 c154 c155 c156 c157 c158 c159 c160 c161 c162 c163 c164 c165 c166 c167 c168 c169 c170 c171 c172 c173 c174 c175 c176 c177 c178 c179 c180 c181 c182 c183 c184 c185 c186 c187 c188 c189 c190 c191 c192 c193 c194 c195 c196 c197 c198 c199 c200 c201 c202 c203 c204 c205 c206 c207 c208 c209 c210 c211 c212 c213 c214 c215 c216 c217 c218 c219 c220 c221 c222 c223 c224 c225 c226 c227 c228 c229 c230 c231 c232 c233 c234 c235 c236 c237 c238 c239 c240 c241 c242 c243 c244 c245 c246 c247 c248 c249 c250 c251 c252 c253 c254 c255 c256 c257 c258 c259 c260 c261 c262 c263 c264 c265 c266 c267 c268 c269 c270 c271 c272 c273 c274 c275 c276 c277 c278 c279 c280 c281 c282 c283 c284 c285 c286 c287 c288 c289 c290 c291 c292 c293 c294 c295 c296 c297 c298 c299 c300 c301 c302 c303 c304 c305 c306 c307 c308 c309 c310 c311 c312 c313 c314 c315 c316 c317 c318 c319 c320 c321 c322 c323 c324 c325 c326 c327 c328 c329 c330 c331 c332 c333 c334 c335 c336 c337 c338 c339 hb hm hnl hns hnow hsn hpr H HI HB2 HX2 hP e0 hQ
  · exact doOth base c d M lots side since hands what o w w2 Q c1 c2 c7 c8 c10 c11 c12 c13 c14 c15 c16 c17 c18 c19 c20 c21 c22 c23 c24 c25 c26 c27 c28 c29 c30 c31 c32 c33 c34 c36 c37 c38 c39 c40 c41 c42 c43 c44 c45 c46 c47 c48 c49 c50 c51 c52 c53 c54 c55 c56 c57 c58 c59 c60 c61 c62 c63 c64 c65 c66 c67 c68 c69 c70 c71 c72 c73 c74 c75 c76 c77 c78 c79 c80 c81 c82 c83 c84 c85 c86 c87 c88 c89 c90 c91 c92 c93 c94 c95 c96 c97 c98 c99 c100 c101 c102 c103 c104 c105 c106 c107 c108 c109 c110 c111 c112 c113 c114 c115 c116 c117 c118 c119 c120 c121 c122 c123 c124 c125 c126 c127 c128 c129 c130 c131 c132 c133 c134 c135 c136 c137 c138 c139 c140 c141 c142 c143 c144 c145 c146 c147 c148 c149 c150 c151 c152 c153 c154 c155 c156 c157 c158 c159 c160 c161 c162 c163 c164 c165 c166 c167 c168 c169 c170 c171 c172 c173 c174 c175 c176 c177 c178 c179 c180 c181 c182 c183 c184 c185 c186 c187 c188 c189 c190 c191 c192 c193 c194 c195 c196 c197 c198 c199 c200 c201 c202 c203 c204 c205 c206 c207 c208 c209 c210 c211 c212 c213 c214 c215 c216 c217 c218 c219 c220 c221 c222 c223 c224 c225 c226 c227 c228 c229 c230 c231 c232 c233 c234 c235 c236 c237 c238 c239 c240 c241 c242 c243 c244 c245 c246 c247 c248 c249 c250 c251 c252 c253 c254 c255 c256 c257 c258 c259 c260 c261 c262 c263 c264 c265 c266 c267 c268 c269 c270 c271 c272 c273 c274 c275 c276 c277 c278 c279 c280 c281 c282 c283 c284 c285 c286 c287 c288 c289 c290 c291 c292 c293 c294 c295 c296 c297 c298 c299 c300 c301 c302 c303 c304 c305 c306 c307 c308 c309 c310 c311 c312 c313 c314 c315 c316 c317 c318 c319 c320 c321 c322 c323 c324 c325 c326 c327 c328 c329 c330 c331 c332 c333 c334 c335 c336 c337 c338 c339 hb hm hnl hns hnow hsn hpr H HI HB2 HX2 hP hwh hQ
end Go.Proofs.YtjdkagafdnchhaaGreatDoor
