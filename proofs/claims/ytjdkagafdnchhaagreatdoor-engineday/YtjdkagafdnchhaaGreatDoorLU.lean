/-
  The keeper's does (9.5), the step that is an order: its trades, and the day behind it. Over this seat's translation. Conditions stand in each theorem.
-/
import Derived.Test.YtjdkagafdnchhaaGreatDoorLT
namespace Go.Proofs.YtjdkagafdnchhaaGreatDoor
open Go.RowKit Go.Maps

/-- a block of a function's own code, by its number -/
def doBlock (m : Nat) : Code → Option Code
  | .block k c => if k = m then some (.block k c) else doBlock m c
  | .seq a b => match doBlock m a with
    | some c => some c
    | none => doBlock m b
  | .cond _ a b => match doBlock m a with
    | some c => some c
    | none => doBlock m b
  | .loop c => doBlock m c
  | .scope c => doBlock m c
  | _ => none
theorem do_panic {P : Program} {fn : Func} {R : Ending → World → Prop} {K : Act → World → Prop} : ∀ (x : List PanicEntry) (a a' : Act) (w : World), a.defers = a'.defers → Exit.then K (bodyPost P fn R) (.panic x) a w → Exit.then K (bodyPost P fn R) (.panic x) a' w := fun _ _ _ _ hd h => ⟨hd ▸ h.1, h.2⟩
noncomputable def doC : Code := ((Tryz.f32.body.bind (doBlock 0)).getD .skip)

set_option maxRecDepth 100000 in
set_option maxHeartbeats 40000000 in
theorem doOrd (base : Nat) (c : DCfg) (d : DayK) (M : Mkt) (lots side : Int → Int) (since : Int) (hands : Bool) (what : Int) (o : Ord) (w w2 : World) (Q : Exit → Act → World → Prop) (c1 c2 c7 c8 c10 c11 c12 c13 c14 c15 c16 c17 c18 c19 c20 c21 c22 c23 c24 c25 c26 c27 c28 c29 c30 c31 c32 c33 c34 c36 c37 c38 c39 c40 c41 c42 c43 c44 c45 c46 c47 c48 c49 c50 c51 c52 c53 c54 c55 c56 c57 c58 c59 c60 c61 c62 c63 c64 c65 c66 c67 c68 c69 c70 c71 c72 c73 c74 c75 c76 c77 c78 c79 c80 c81 c82 c83 c84 c85 c86 c87 c88 c89 c90 c91 c92 c93 c94 c95 c96 c97 c98 c99 c100 c101 c102 c103 c104 c105 c106 c107 c108 c109 c110 c111 c112 c113 c114 c115 c116 c117 c118 c119 c120 c121 c122 c123 c124 c125 c126 c127 c128 c129 c130 c131 c132 c133 c134 c135 c136 c137 c138 c139 c140 c141 c142 c143 c144 c145 c146 c147 c148 c149 c150 c151 c152 c153 c154 c155 c156 c157 c158 c159 c160 c161 c162 c163 c164 c165 c166 c167 c168 c169 c170 c171 c172 c173 c174 c175 c176 c177 c178 c179 c180 c181 c182 c183 c184 c185 c186 c187 c188 c189 c190 c191 c192 c193 c194 c195 c196 c197 c198 c199 c200 c201 c202 c203 c204 c205 c206 c207 c208 c209 c210 c211 c212 c213 c214 c215 c216 c217 c218 c219 c220 c221 c222 c223 c224 c225 c226 c227 c228 c229 c230 c231 c232 c233 c234 c235 c236 c237 c238 c239 c240 c241 c242 c243 c244 c245 c246 c247 c248 c249 c250 c251 c252 c253 c254 c255 c256 c257 c258 c259 c260 c261 c262 c263 c264 c265 c266 c267 c268 c269 c270 c271 c272 c273 c274 c275 c276 c277 c278 c279 c280 c281 c282 c283 c284 c285 c286 c287 c288 c289 c290 c291 c292 c293 c294 c295 c296 c297 c298 c299 c300 c301 c302 c303 c304 c305 c306 c307 c308 c309 c310 c311 c312 c313 c314 c315 c316 c317 c318 c319 c320 c321 c322 c323 c324 c325 c326 c327 c328 c329 c330 c331 c332 c333 c334 c335 c336 c337 c338 c339 : Value) (hb : base ≤ w.heap.size) (hm : d.k.m ≤ 500000) (hnl : d.nl ≤ 500000) (hns : d.ns ≤ 500000) (hnow : M.now ≤ 1000000) (_hsn : since ≤ 500000) (hpr : 20 ≤ c.pr ∧ c.pr ≤ 1000) (H : Hid (Day w base c d M lots side since hands)) (HI : Hid (DayInv M lots side since hands)) (HB2 : Hid (Below w.heap.size w w2)) (HX2 : Hid (w2.heap[w.heap.size]? = some (.cells #[.int .i64 what, .int .i64 o.id, .int .i64 o.side, .int .i64 o.kind, .int .i64 o.price, .int .i64 o.qty] 80 (0, 0)))) (hP : ∀ (x : List PanicEntry) (a a' : Act) (w : World), a.defers = a'.defers → Q (.panic x) a w → Q (.panic x) a' w) (e0 : what = 0)
    (hQ : ∀ (e9 e10 e11 e12 e13 e14 e36 e37 e38 e39 e40 e41 e42 e43 e44 e45 e46 e47 e48 e49 e50 e51 e52 e53 e54 e55 e56 e57 e58 e59 e60 e61 e62 e63 e64 e65 e66 e67 e68 e69 e70 e71 e72 e73 e74 e75 e76 e77 e78 e79 e80 e81 e82 e83 e84 e85 e86 e87 e88 e89 e90 e91 e92 e93 e94 e95 e96 e97 e98 e99 e100 e101 e102 e103 e104 e105 e106 e107 e108 e109 e110 e111 e112 e113 e114 e115 e116 e117 e118 e119 e120 e121 e122 e123 e124 e125 e126 e127 e128 e129 e130 e131 e132 e133 e134 e135 e136 e137 e138 e139 e140 e141 e142 e143 e144 e145 e146 e147 e148 e149 e150 : Value) (wd : World), (DoMid w base c d M since what e9 wd ∧ wd.heap[w.heap.size]? = some (.cells #[.int .i64 what, .int .i64 o.id, .int .i64 o.side, .int .i64 o.kind, .int .i64 o.price, .int .i64 o.qty] 80 (0, 0))) → Q .normal ⟨#[.pointer (some ⟨d.db, 0, none⟩), c1, c2, .pointer (some ⟨w.heap.size, 0, none⟩), .bool false, .pointer (some ⟨d.eb, 0, none⟩), .int .i64 M.ph, c7, c8, e9, e10, e11, e12, e13, e14, c15, c16, c17, c18, c19, c20, c21, c22, c23, c24, c25, c26, c27, c28, c29, c30, c31, c32, c33, c34, .int .i64 what, e36, e37, e38, e39, e40, e41, e42, e43, e44, e45, e46, e47, e48, e49, e50, e51, e52, e53, e54, e55, e56, e57, e58, e59, e60, e61, e62, e63, e64, e65, e66, e67, e68, e69, e70, e71, e72, e73, e74, e75, e76, e77, e78, e79, e80, e81, e82, e83, e84, e85, e86, e87, e88, e89, e90, e91, e92, e93, e94, e95, e96, e97, e98, e99, e100, e101, e102, e103, e104, e105, e106, e107, e108, e109, e110, e111, e112, e113, e114, e115, e116, e117, e118, e119, e120, e121, e122, e123, e124, e125, e126, e127, e128, e129, e130, e131, e132, e133, e134, e135, e136, e137, e138, e139, e140, e141, e142, e143, e144, e145, e146, e147, e148, e149, e150, c151, c152, c153, c154, c155, c156, c157, c158, c159, c160, c161, c162, c163, c164, c165, c166, c167, c168, c169, c170, c171, c172, c173, c174, c175, c176, c177, c178, c179, c180, c181, c182, c183, c184, c185, c186, c187, c188, c189, c190, c191, c192, c193, c194, c195, c196, c197, c198, c199, c200, c201, c202, c203, c204, c205, c206, c207, c208, c209, c210, c211, c212, c213, c214, c215, c216, c217, c218, c219, c220, c221, c222, c223, c224, c225, c226, c227, c228, c229, c230, c231, c232, c233, c234, c235, c236, c237, c238, c239, c240, c241, c242, c243, c244, c245, c246, c247, c248, c249, c250, c251, c252, c253, c254, c255, c256, c257, c258, c259, c260, c261, c262, c263, c264, c265, c266, c267, c268, c269, c270, c271, c272, c273, c274, c275, c276, c277, c278, c279, c280, c281, c282, c283, c284, c285, c286, c287, c288, c289, c290, c291, c292, c293, c294, c295, c296, c297, c298, c299, c300, c301, c302, c303, c304, c305, c306, c307, c308, c309, c310, c311, c312, c313, c314, c315, c316, c317, c318, c319, c320, c321, c322, c323, c324, c325, c326, c327, c328, c329, c330, c331, c332, c333, c334, c335, c336, c337, c338, c339], []⟩ wd) :
    Code.wp Tryz.prog doC Q ⟨#[.pointer (some ⟨d.db, 0, none⟩), c1, c2, .pointer (some ⟨w.heap.size, 0, none⟩), .bool false, .pointer (some ⟨d.eb, 0, none⟩), .int .i64 M.ph, c7, c8, .slice none 0 0, c10, c11, c12, c13, c14, c15, c16, c17, c18, c19, c20, c21, c22, c23, c24, c25, c26, c27, c28, c29, c30, c31, c32, c33, c34, .int .i64 what, c36, c37, c38, c39, c40, c41, c42, c43, c44, c45, c46, c47, c48, c49, c50, c51, c52, c53, c54, c55, c56, c57, c58, c59, c60, c61, c62, c63, c64, c65, c66, c67, c68, c69, c70, c71, c72, c73, c74, c75, c76, c77, c78, c79, c80, c81, c82, c83, c84, c85, c86, c87, c88, c89, c90, c91, c92, c93, c94, c95, c96, c97, c98, c99, c100, c101, c102, c103, c104, c105, c106, c107, c108, c109, c110, c111, c112, c113, c114, c115, c116, c117, c118, c119, c120, c121, c122, c123, c124, c125, c126, c127, c128, c129, c130, c131, c132, c133, c134, c135, c136, c137, c138, c139, c140, c141, c142, c143, c144, c145, c146, c147, c148, c149, c150, c151, c152, c153, c154, c155, c156, c157, c158, c159, c160, c161, c162, c163, c164, c165, c166, c167, c168, c169, c170, c171, c172, c173, c174, c175, c176, c177, c178, c179, c180, c181, c182, c183, c184, c185, c186, c187, c188, c189, c190, c191, c192, c193, c194, c195, c196, c197, c198, c199, c200, c201, c202, c203, c204, c205, c206, c207, c208, c209, c210, c211, c212, c213, c214, c215, c216, c217, c218, c219, c220, c221, c222, c223, c224, c225, c226, c227, c228, c229, c230, c231, c232, c233, c234, c235, c236, c237, c238, c239, c240, c241, c242, c243, c244, c245, c246, c247, c248, c249, c250, c251, c252, c253, c254, c255, c256, c257, c258, c259, c260, c261, c262, c263, c264, c265, c266, c267, c268, c269, c270, c271, c272, c273, c274, c275, c276, c277, c278, c279, c280, c281, c282, c283, c284, c285, c286, c287, c288, c289, c290, c291, c292, c293, c294, c295, c296, c297, c298, c299, c300, c301, c302, c303, c304, c305, c306, c307, c308, c309, c310, c311, c312, c313, c314, c315, c316, c317, c318, c319, c320, c321, c322, c323, c324, c325, c326, c327, c328, c329, c330, c331, c332, c333, c334, c335, c336, c337, c338, c339], []⟩ w2 := by
  conv => arg 2; whnf
  have HQ : Hid (∀ (e9 e10 e11 e12 e13 e14 e36 e37 e38 e39 e40 e41 e42 e43 e44 e45 e46 e47 e48 e49 e50 e51 e52 e53 e54 e55 e56 e57 e58 e59 e60 e61 e62 e63 e64 e65 e66 e67 e68 e69 e70 e71 e72 e73 e74 e75 e76 e77 e78 e79 e80 e81 e82 e83 e84 e85 e86 e87 e88 e89 e90 e91 e92 e93 e94 e95 e96 e97 e98 e99 e100 e101 e102 e103 e104 e105 e106 e107 e108 e109 e110 e111 e112 e113 e114 e115 e116 e117 e118 e119 e120 e121 e122 e123 e124 e125 e126 e127 e128 e129 e130 e131 e132 e133 e134 e135 e136 e137 e138 e139 e140 e141 e142 e143 e144 e145 e146 e147 e148 e149 e150 : Value) (wd : World), (DoMid w base c d M since what e9 wd ∧ wd.heap[w.heap.size]? = some (.cells #[.int .i64 what, .int .i64 o.id, .int .i64 o.side, .int .i64 o.kind, .int .i64 o.price, .int .i64 o.qty] 80 (0, 0))) → Q .normal ⟨#[.pointer (some ⟨d.db, 0, none⟩), c1, c2, .pointer (some ⟨w.heap.size, 0, none⟩), .bool false, .pointer (some ⟨d.eb, 0, none⟩), .int .i64 M.ph, c7, c8, e9, e10, e11, e12, e13, e14, c15, c16, c17, c18, c19, c20, c21, c22, c23, c24, c25, c26, c27, c28, c29, c30, c31, c32, c33, c34, .int .i64 what, e36, e37, e38, e39, e40, e41, e42, e43, e44, e45, e46, e47, e48, e49, e50, e51, e52, e53, e54, e55, e56, e57, e58, e59, e60, e61, e62, e63, e64, e65, e66, e67, e68, e69, e70, e71, e72, e73, e74, e75, e76, e77, e78, e79, e80, e81, e82, e83, e84, e85, e86, e87, e88, e89, e90, e91, e92, e93, e94, e95, e96, e97, e98, e99, e100, e101, e102, e103, e104, e105, e106, e107, e108, e109, e110, e111, e112, e113, e114, e115, e116, e117, e118, e119, e120, e121, e122, e123, e124, e125, e126, e127, e128, e129, e130, e131, e132, e133, e134, e135, e136, e137, e138, e139, e140, e141, e142, e143, e144, e145, e146, e147, e148, e149, e150, c151, c152, c153, c154, c155, c156, c157, c158, c159, c160, c161, c162, c163, c164, c165, c166, c167, c168, c169, c170, c171, c172, c173, c174, c175, c176, c177, c178, c179, c180, c181, c182, c183, c184, c185, c186, c187, c188, c189, c190, c191, c192, c193, c194, c195, c196, c197, c198, c199, c200, c201, c202, c203, c204, c205, c206, c207, c208, c209, c210, c211, c212, c213, c214, c215, c216, c217, c218, c219, c220, c221, c222, c223, c224, c225, c226, c227, c228, c229, c230, c231, c232, c233, c234, c235, c236, c237, c238, c239, c240, c241, c242, c243, c244, c245, c246, c247, c248, c249, c250, c251, c252, c253, c254, c255, c256, c257, c258, c259, c260, c261, c262, c263, c264, c265, c266, c267, c268, c269, c270, c271, c272, c273, c274, c275, c276, c277, c278, c279, c280, c281, c282, c283, c284, c285, c286, c287, c288, c289, c290, c291, c292, c293, c294, c295, c296, c297, c298, c299, c300, c301, c302, c303, c304, c305, c306, c307, c308, c309, c310, c311, c312, c313, c314, c315, c316, c317, c318, c319, c320, c321, c322, c323, c324, c325, c326, c327, c328, c329, c330, c331, c332, c333, c334, c335, c336, c337, c338, c339], []⟩ wd) := hQ
  have HP : Hid (∀ (x : List PanicEntry) (a a' : Act) (w : World), a.defers = a'.defers → Q (.panic x) a w → Q (.panic x) a' w) := hP
  clear hQ hP
  have H2 : Hid (Day w2 base c d M lots side since hands) := H.out.below HB2.out
  have x0 : w2.cell? ⟨w.heap.size, 0, none⟩ = some (.int .i64 what) := blk_cell (j := 0) HX2.out rfl
  have HLK : Hid (LOk M.L) := H2.out.eg.lok
  have HF1 : Hid (M.L.length ≤ 100) := H2.out.eg.few100
  have HNUM : Hid (MNum M) := HI.out.num (by omega)
  have hb2 : base ≤ w2.heap.size := Nat.le_trans hb HB2.out.size
  have HBB : Hid (Below base w w2) := HB2.out.mono hb
  have HE0 : Hid (what = 0) := e0
  have n0 : (what == 0) = true := beq_iff_eq.2 e0
  have x1 : w2.cell? ⟨w.heap.size, 1, none⟩ = some (.int .i64 o.id) := blk_cell (j := 1) HX2.out rfl
  have x2 : w2.cell? ⟨w.heap.size, 2, none⟩ = some (.int .i64 o.side) := blk_cell (j := 2) HX2.out rfl
  have x3 : w2.cell? ⟨w.heap.size, 3, none⟩ = some (.int .i64 o.kind) := blk_cell (j := 3) HX2.out rfl
  have x4 : w2.cell? ⟨w.heap.size, 4, none⟩ = some (.int .i64 o.price) := blk_cell (j := 4) HX2.out rfl
  have x5 : w2.cell? ⟨w.heap.size, 5, none⟩ = some (.int .i64 o.qty) := blk_cell (j := 5) HX2.out rfl
  clear e0
  go_upto_region 9 with fail
  have hx := heap_alloc_new w2 (.cells #[.int .i64 o.id, .int .i64 o.side, .int .i64 o.kind, .int .i64 o.price, .int .i64 o.qty] 41)
  have hb3 := bel1 w2 (.cells #[.int .i64 o.id, .int .i64 o.side, .int .i64 o.kind, .int .i64 o.price, .int .i64 o.qty] 41)
  generalize w2.alloc (.cells #[.int .i64 o.id, .int .i64 o.side, .int .i64 o.kind, .int .i64 o.price, .int .i64 o.qty] 41) = w3 at hx hb3 ⊢
  have HX3 : Hid (OrdAt w3 w2.heap.size o) := hx
  have HB3 : Hid (Below w2.heap.size w2 w3) := hb3
  clear hx hb3 x1 x2 x3 x4 x5 x0
  have p0 := pickE_in o.id 500 (by decide)
  have p1 := pickE_in o.side 2 (by decide)
  have p2 := pickE_in o.kind 4 (by decide)
  have r0 : IntKind.i64.wrap (1 + pickE o.id 500) = 1 + pickE o.id 500 := IntWalk.i64_in _ (by omega)
  have r1 : IntKind.i64.wrap (1 + pickE o.side 2) = 1 + pickE o.side 2 := IntWalk.i64_in _ (by omega)
  have r2 : IntKind.i64.wrap (1 + pickE o.kind 4) = 1 + pickE o.kind 4 := IntWalk.i64_in _ (by omega)
  have hHS : Hid _ := lieO_cells (show OrdAt w3.drew w2.heap.size o from blk_below HX3.out (Below.refl _ _).drew (Nat.le_refl _))
  obtain ⟨y0, y1, y2, y3, y4⟩ := lieO_cells HX3.out
  have g0 := blk_free (j := 0) HX3.out
  have g1 := blk_free (j := 1) HX3.out
  have g2 := blk_free (j := 2) HX3.out
  refine wp_region_lateM (fun _ w' => w'.cell? ⟨w2.heap.size, 0, none⟩ = some (.int .i64 o.id) ∧ w'.cell? ⟨w2.heap.size, 1, none⟩ = some (.int .i64 o.side) ∧ w'.cell? ⟨w2.heap.size, 2, none⟩ = some (.int .i64 o.kind)) (fun _ i => i == 13 || i == 15 || i == 17) (by kernel_rfl) (fun _ => ⟨hHS.out.1, hHS.out.2.1, hHS.out.2.2.1⟩) (fun hHeld => ?_)
  refine wpAnyM_take 0 (i := 0) (v := ?_) rfl (by kernel_rfl) (by kernel_rfl) (by kernel_rfl) (by kernel_rfl) (by kernel_rfl) (by first | exact fun _ _ _ h => h | exact fun _ _ _ h => HP.out _ _ _ _ (by rfl) h) (by rfl) ?_ (hHeld 0) ?_
  rotate_left
  · intro w hSw
    try simp only [lateS_zero] at hSw
    try dsimp only at hSw
    go_simp
    try rfl
  refine wpAnyM_take 0 (i := 1) (v := ?_) rfl (by kernel_rfl) (by kernel_rfl) (by kernel_rfl) (by kernel_rfl) (by kernel_rfl) (by first | exact fun _ _ _ h => h | exact fun _ _ _ h => HP.out _ _ _ _ (by rfl) h) (by rfl) ?_ (hHeld 0) ?_
  rotate_left
  · intro w hSw
    try simp only [lateS_zero] at hSw
    try dsimp only at hSw
    go_simp
    try rfl
  refine wpAnyM_take 0 (i := 4) (v := ?_) rfl (by kernel_rfl) (by kernel_rfl) (by kernel_rfl) (by kernel_rfl) (by kernel_rfl) (by first | exact fun _ _ _ h => h | exact fun _ _ _ h => HP.out _ _ _ _ (by rfl) h) (by rfl) ?_ (hHeld 0) ?_
  rotate_left
  · intro w hSw
    try simp only [lateS_zero] at hSw
    try dsimp only at hSw
    go_simp
    try rfl
  refine wpAnyM_take 0 (i := 5) (v := ?_) rfl (by kernel_rfl) (by kernel_rfl) (by kernel_rfl) (by kernel_rfl) (by kernel_rfl) (by first | exact fun _ _ _ h => h | exact fun _ _ _ h => HP.out _ _ _ _ (by rfl) h) (by rfl) ?_ (hHeld 0) ?_
  rotate_left
  · intro w hSw
    try simp only [lateS_zero] at hSw
    try dsimp only at hSw
    go_simp
    try rfl
  refine wpAnyM_take 0 (i := 8) (v := ?_) rfl (by kernel_rfl) (by kernel_rfl) (by kernel_rfl) (by kernel_rfl) (by kernel_rfl) (by first | exact fun _ _ _ h => h | exact fun _ _ _ h => HP.out _ _ _ _ (by rfl) h) (by rfl) ?_ (hHeld 0) ?_
  rotate_left
  · intro w hSw
    try simp only [lateS_zero] at hSw
    try dsimp only at hSw
    go_simp
    try rfl
  refine wpAnyM_take 0 (i := 9) (v := ?_) rfl (by kernel_rfl) (by kernel_rfl) (by kernel_rfl) (by kernel_rfl) (by kernel_rfl) (by first | exact fun _ _ _ h => h | exact fun _ _ _ h => HP.out _ _ _ _ (by rfl) h) (by rfl) ?_ (hHeld 0) ?_
  rotate_left
  · intro w hSw
    try simp only [lateS_zero] at hSw
    try dsimp only at hSw
    go_simp
    try rfl
  refine wpAnyM_one (i := 2) (by kernel_rfl) rfl (fun K hK => ?_)
  go_simp
  refine (drPick o.id 500 _ (by decide)).mono ?_
  rintro e w' ⟨rfl, hw⟩
  subst hw
  refine hK.out _ _ (fun _ _ h => h) ?_
  clear hK K
  refine wpAnyM_pure (i := 3) (v := ?_) rfl (by kernel_rfl) (by kernel_rfl) (by kernel_rfl) (by kernel_rfl) (by first | exact fun _ _ _ h => h | exact fun _ _ _ h => HP.out _ _ _ _ (by rfl) h) (by rfl) ?_ ?_
  rotate_left
  · intro w
    go_simp
    try rfl
  refine wpAnyM_pure (i := 12) (v := ?_) rfl (by kernel_rfl) (by kernel_rfl) (by kernel_rfl) (by kernel_rfl) (by first | exact fun _ _ _ h => h | exact fun _ _ _ h => HP.out _ _ _ _ (by rfl) h) (by rfl) ?_ ?_
  rotate_left
  · intro w
    go_simp
    try rfl
  refine wpAnyM_one (i := 6) (by kernel_rfl) rfl (fun K hK => ?_)
  go_simp
  refine (drPick o.side 2 _ (by decide)).mono ?_
  rintro e w' ⟨rfl, hw⟩
  subst hw
  refine hK.out _ _ (fun _ _ h => h) ?_
  clear hK K
  refine wpAnyM_pure (i := 7) (v := ?_) rfl (by kernel_rfl) (by kernel_rfl) (by kernel_rfl) (by kernel_rfl) (by first | exact fun _ _ _ h => h | exact fun _ _ _ h => HP.out _ _ _ _ (by rfl) h) (by rfl) ?_ ?_
  rotate_left
  · intro w
    go_simp
    try rfl
  refine wpAnyM_one (i := 10) (by kernel_rfl) rfl (fun K hK => ?_)
  go_simp
  refine (drPick o.kind 4 _ (by decide)).mono ?_
  rintro e w' ⟨rfl, hw⟩
  subst hw
  refine hK.out _ _ (fun _ _ h => h) ?_
  clear hK K
  refine wpAnyM_pure (i := 11) (v := ?_) rfl (by kernel_rfl) (by kernel_rfl) (by kernel_rfl) (by kernel_rfl) (by first | exact fun _ _ _ h => h | exact fun _ _ _ h => HP.out _ _ _ _ (by rfl) h) (by rfl) ?_ ?_
  rotate_left
  · intro w
    go_simp
    try rfl
  refine wpAnyM_one (i := 13) (by kernel_rfl) rfl (fun K hK => ?_)
  go_simp
  refine hK.out _ _ (fun _ h => by cases h) ?_
  clear hK K
  refine wpAnyM_pure (i := 14) (v := ?_) rfl (by kernel_rfl) (by kernel_rfl) (by kernel_rfl) (by kernel_rfl) (by first | exact fun _ _ _ h => h | exact fun _ _ _ h => HP.out _ _ _ _ (by rfl) h) (by rfl) ?_ ?_
  rotate_left
  · intro w
    go_simp
    try rfl
  refine wpAnyM_one (i := 15) (by kernel_rfl) rfl (fun K hK => ?_)
  go_simp
  refine hK.out _ _ (fun _ h => by cases h) ?_
  clear hK K
  refine wpAnyM_pure (i := 16) (v := ?_) rfl (by kernel_rfl) (by kernel_rfl) (by kernel_rfl) (by kernel_rfl) (by first | exact fun _ _ _ h => h | exact fun _ _ _ h => HP.out _ _ _ _ (by rfl) h) (by rfl) ?_ ?_
  rotate_left
  · intro w
    go_simp
    try rfl
  refine wpAnyM_one (i := 17) (by kernel_rfl) rfl (fun K hK => ?_)
  go_simp
  refine hK.out _ _ (fun _ h => by cases h) ?_
  clear hK K
  refine wpAnyM_done (by kernel_rfl) ?_ _
  obtain ⟨o1, ho1⟩ : ∃ o1 : Ord, o1 = { o with id := 1 + pickE o.id 500, side := 1 + pickE o.side 2, kind := 1 + pickE o.kind 4 } := ⟨_, rfl⟩
  have h4 : OrdAt (((w3.setCell ⟨w2.heap.size, 0, none⟩ (.int .i64 (1 + pickE o.id 500))).setCell ⟨w2.heap.size, 1, none⟩ (.int .i64 (1 + pickE o.side 2))).setCell ⟨w2.heap.size, 2, none⟩ (.int .i64 (1 + pickE o.kind 4))).drew w2.heap.size o1 := by
    rw [ho1]
    exact blk_below (blk_set (j := 2) _ (blk_set (j := 1) _ (blk_set (j := 0) _ HX3.out))) (Below.refl _ _).drew (Nat.le_refl _)
  have hb4 : Below w2.heap.size w2 (((w3.setCell ⟨w2.heap.size, 0, none⟩ (.int .i64 (1 + pickE o.id 500))).setCell ⟨w2.heap.size, 1, none⟩ (.int .i64 (1 + pickE o.side 2))).setCell ⟨w2.heap.size, 2, none⟩ (.int .i64 (1 + pickE o.kind 4))).drew := (((HB3.out.setCell (p := ⟨w2.heap.size, 0, none⟩) (Nat.le_refl _) _).setCell (p := ⟨w2.heap.size, 1, none⟩) (Nat.le_refl _) _).setCell (p := ⟨w2.heap.size, 2, none⟩) (Nat.le_refl _) _).drew
  generalize (((w3.setCell ⟨w2.heap.size, 0, none⟩ (.int .i64 (1 + pickE o.id 500))).setCell ⟨w2.heap.size, 1, none⟩ (.int .i64 (1 + pickE o.side 2))).setCell ⟨w2.heap.size, 2, none⟩ (.int .i64 (1 + pickE o.kind 4))).drew = w4 at h4 hb4 ⊢
  have HX4 : Hid (OrdAt w4 w2.heap.size o1) := h4
  have HB4 : Hid (Below w2.heap.size w2 w4) := hb4
  have HO1 : Hid (o1.id = 1 + pickE o.id 500) := by show _ = _; rw [ho1]
  have HO1s : Hid ((Lit.int .i64 o1.side).wf = true) := by show _ = _; rw [ho1]; exact WalkArith.wf_i64 (by show -9223372036854775808 ≤ 1 + pickE o.side 2 ∧ 1 + pickE o.side 2 ≤ 9223372036854775807; omega)
  clear h4 hb4 HX3 HB3 y0 y1 y2 y3 y4 g0 g1 g2 hHS r0 r1 r2 p1 p2 ho1
  go_upto_region 10 with fail
  have p3 := pickE_in o1.qty 30 (by decide)
  have p4 := pickE_in o1.price 40 (by decide)
  have r3 : IntKind.i64.wrap (1 + pickE o1.qty 30) = 1 + pickE o1.qty 30 := IntWalk.i64_in _ (by omega)
  have r4 : IntKind.i64.wrap (c.pr - 20) = c.pr - 20 := IntWalk.i64_in _ (by omega)
  have r5 : IntKind.i64.wrap (c.pr - 20 + pickE o1.price 40) = c.pr - 20 + pickE o1.price 40 := IntWalk.i64_in _ (by omega)
  have hHS : Hid (w4.drew.cell? ⟨w2.heap.size, 3, none⟩ = some (.int .i64 o1.price) ∧ w4.drew.cell? ⟨w2.heap.size, 4, none⟩ = some (.int .i64 o1.qty) ∧ w4.drew.cell? ⟨d.db, 4, none⟩ = some (.int .i64 c.pr)) := by
    have h := lieO_cells (show OrdAt w4.drew w2.heap.size o1 from blk_below HX4.out (Below.refl _ _).drew (Nat.le_refl _))
    exact ⟨h.2.2.2.1, h.2.2.2.2, blk_cell (j := 4) ((H2.out.below HB4.out).below (Below.refl _ _).drew).box rfl⟩
  have HS4 : Hid ((w4.setCell ⟨w2.heap.size, 4, none⟩ (.int .i64 (1 + pickE o1.qty 30))).drew.cell? ⟨w2.heap.size, 3, none⟩ = some (.int .i64 o1.price) ∧ (w4.setCell ⟨w2.heap.size, 4, none⟩ (.int .i64 (1 + pickE o1.qty 30))).drew.cell? ⟨d.db, 4, none⟩ = some (.int .i64 c.pr)) := ⟨blk_cell (j := 3) (blk_below (blk_set (j := 4) (.int .i64 (1 + pickE o1.qty 30)) HX4.out) (Below.refl _ _).drew (Nat.le_refl _)) rfl, blk_cell (j := 4) ((H2.out.below (HB4.out.setCell (p := ⟨w2.heap.size, 4, none⟩) (Nat.le_refl _) (.int .i64 (1 + pickE o1.qty 30))).drew)).box rfl⟩
  obtain ⟨y0, y1, y2, y3, y4⟩ := lieO_cells HX4.out
  have g3 := blk_free (j := 3) HX4.out
  have g4 := blk_free (j := 4) HX4.out
  refine wp_region_lateM (lateS (fun w' => w'.cell? ⟨w2.heap.size, 4, none⟩ = some (.int .i64 o1.qty)) (fun w' => w'.cell? ⟨w2.heap.size, 3, none⟩ = some (.int .i64 o1.price) ∧ w'.cell? ⟨d.db, 4, none⟩ = some (.int .i64 c.pr))) (lateL (fun i => i == 16 || i == 18) (fun i => i == 18)) (by kernel_rfl) (lateS_all hHS.out.2.1 ⟨hHS.out.1, hHS.out.2.2⟩) (fun hHeld => ?_)
  refine wpAnyM_take 0 (i := 0) (v := ?_) rfl (by kernel_rfl) (by kernel_rfl) (by kernel_rfl) (by kernel_rfl) (by kernel_rfl) (by first | exact fun _ _ _ h => h | exact fun _ _ _ h => HP.out _ _ _ _ (by rfl) h) (by rfl) ?_ (hHeld 0) ?_
  rotate_left
  · intro w hSw
    try simp only [lateS_zero] at hSw
    try dsimp only at hSw
    go_simp
    try rfl
  refine wpAnyM_take 0 (i := 1) (v := ?_) rfl (by kernel_rfl) (by kernel_rfl) (by kernel_rfl) (by kernel_rfl) (by kernel_rfl) (by first | exact fun _ _ _ h => h | exact fun _ _ _ h => HP.out _ _ _ _ (by rfl) h) (by rfl) ?_ (hHeld 0) ?_
  rotate_left
  · intro w hSw
    try simp only [lateS_zero] at hSw
    try dsimp only at hSw
    go_simp
    try rfl
  refine wpAnyM_take 1 (i := 10) (v := ?_) rfl (by kernel_rfl) (by kernel_rfl) (by kernel_rfl) (by kernel_rfl) (by kernel_rfl) (by first | exact fun _ _ _ h => h | exact fun _ _ _ h => HP.out _ _ _ _ (by rfl) h) (by rfl) ?_ (hHeld 1) ?_
  rotate_left
  · intro w hSw
    try simp only [lateS_one] at hSw
    try dsimp only at hSw
    go_simp
    try rfl
  refine wpAnyM_take 1 (i := 11) (v := ?_) rfl (by kernel_rfl) (by kernel_rfl) (by kernel_rfl) (by kernel_rfl) (by kernel_rfl) (by first | exact fun _ _ _ h => h | exact fun _ _ _ h => HP.out _ _ _ _ (by rfl) h) (by rfl) ?_ (hHeld 1) ?_
  rotate_left
  · intro w hSw
    try simp only [lateS_one] at hSw
    try dsimp only at hSw
    go_simp
    try rfl
  refine wpAnyM_pure (i := 4) (v := ?_) rfl (by kernel_rfl) (by kernel_rfl) (by kernel_rfl) (by kernel_rfl) (by first | exact fun _ _ _ h => h | exact fun _ _ _ h => HP.out _ _ _ _ (by rfl) h) (by rfl) ?_ ?_
  rotate_left
  · intro w
    go_simp
    try rfl
  refine wpAnyM_pure (i := 5) (v := ?_) rfl (by kernel_rfl) (by kernel_rfl) (by kernel_rfl) (by kernel_rfl) (by first | exact fun _ _ _ h => h | exact fun _ _ _ h => HP.out _ _ _ _ (by rfl) h) (by rfl) ?_ ?_
  rotate_left
  · intro w
    go_simp
    try rfl
  refine wpAnyM_pure (i := 6) (v := ?_) rfl (by kernel_rfl) (by kernel_rfl) (by kernel_rfl) (by kernel_rfl) (by first | exact fun _ _ _ h => h | exact fun _ _ _ h => HP.out _ _ _ _ (by rfl) h) (by rfl) ?_ ?_
  rotate_left
  · intro w
    go_simp
    try rfl
  refine wpAnyM_pure (i := 7) (v := ?_) rfl (by kernel_rfl) (by kernel_rfl) (by kernel_rfl) (by kernel_rfl) (by first | exact fun _ _ _ h => h | exact fun _ _ _ h => HP.out _ _ _ _ (by rfl) h) (by rfl) ?_ ?_
  rotate_left
  · intro w
    go_simp
    try rfl
  refine wpAnyM_take 1 (i := 8) (v := ?_) rfl (by kernel_rfl) (by kernel_rfl) (by kernel_rfl) (by kernel_rfl) (by kernel_rfl) (by first | exact fun _ _ _ h => h | exact fun _ _ _ h => HP.out _ _ _ _ (by rfl) h) (by rfl) ?_ (hHeld 1) ?_
  rotate_left
  · intro w hSw
    try simp only [lateS_one] at hSw
    try dsimp only at hSw
    go_simp
    try rfl
  refine wpAnyM_pure (i := 9) (v := ?_) rfl (by kernel_rfl) (by kernel_rfl) (by kernel_rfl) (by kernel_rfl) (by first | exact fun _ _ _ h => h | exact fun _ _ _ h => HP.out _ _ _ _ (by rfl) h) (by rfl) ?_ ?_
  rotate_left
  · intro w
    go_simp
    try rfl
  refine wpAnyM_one (i := 2) (by kernel_rfl) rfl (fun K hK => ?_)
  go_simp
  refine (drPick o1.qty 30 _ (by decide)).mono ?_
  rintro e w' ⟨rfl, hw⟩
  subst hw
  refine hK.out _ _ (fun _ _ h => h) ?_
  clear hK K
  refine wpAnyM_pure (i := 3) (v := ?_) rfl (by kernel_rfl) (by kernel_rfl) (by kernel_rfl) (by kernel_rfl) (by first | exact fun _ _ _ h => h | exact fun _ _ _ h => HP.out _ _ _ _ (by rfl) h) (by rfl) ?_ ?_
  rotate_left
  · intro w
    go_simp
    try rfl
  refine wpAnyM_pure (i := 15) (v := ?_) rfl (by kernel_rfl) (by kernel_rfl) (by kernel_rfl) (by kernel_rfl) (by first | exact fun _ _ _ h => h | exact fun _ _ _ h => HP.out _ _ _ _ (by rfl) h) (by rfl) ?_ ?_
  rotate_left
  · intro w
    go_simp
    try rfl
  refine wpAnyM_one (i := 12) (by kernel_rfl) rfl (fun K hK => ?_)
  go_simp
  refine (drPick o1.price 40 _ (by decide)).mono ?_
  rintro e w' ⟨rfl, hw⟩
  subst hw
  refine hK.out _ _ (fun _ _ h => h) ?_
  clear hK K
  refine wpAnyM_pure (i := 13) (v := ?_) rfl (by kernel_rfl) (by kernel_rfl) (by kernel_rfl) (by kernel_rfl) (by first | exact fun _ _ _ h => h | exact fun _ _ _ h => HP.out _ _ _ _ (by rfl) h) (by rfl) ?_ ?_
  rotate_left
  · intro w
    go_simp
    try rfl
  refine wpAnyM_pure (i := 14) (v := ?_) rfl (by kernel_rfl) (by kernel_rfl) (by kernel_rfl) (by kernel_rfl) (by first | exact fun _ _ _ h => h | exact fun _ _ _ h => HP.out _ _ _ _ (by rfl) h) (by rfl) ?_ ?_
  rotate_left
  · intro w
    go_simp
    try rfl
  refine wpAnyM_one (i := 16) (by kernel_rfl) rfl (fun K hK => ?_)
  go_simp
  refine hK.out _ _ ?_ ?_
  · intro n
    cases n with
    | zero => intro h; cases h
    | succ n => intro _ _; exact HS4.out
  clear hK K
  refine wpAnyM_pure (i := 17) (v := ?_) rfl (by kernel_rfl) (by kernel_rfl) (by kernel_rfl) (by kernel_rfl) (by first | exact fun _ _ _ h => h | exact fun _ _ _ h => HP.out _ _ _ _ (by rfl) h) (by rfl) ?_ ?_
  rotate_left
  · intro w
    go_simp
    try rfl
  refine wpAnyM_one (i := 18) (by kernel_rfl) rfl (fun K hK => ?_)
  go_simp
  refine hK.out _ _ ?_ ?_
  · intro n
    cases n with
    | zero => intro h; cases h
    | succ n => intro h; cases h
  clear hK K
  refine wpAnyM_done (by kernel_rfl) ?_ _
  obtain ⟨o2, ho2⟩ : ∃ o2 : Ord, o2 = { o1 with price := max 1 (c.pr - 20 + pickE o1.price 40), qty := 1 + pickE o1.qty 30 } := ⟨_, rfl⟩
  have h5 : OrdAt ((w4.setCell ⟨w2.heap.size, 4, none⟩ (.int .i64 (1 + pickE o1.qty 30))).setCell ⟨w2.heap.size, 3, none⟩ (.int .i64 (max 1 (c.pr - 20 + pickE o1.price 40)))).drew w2.heap.size o2 := by
    rw [ho2]
    exact blk_below (blk_set (j := 3) _ (blk_set (j := 4) _ HX4.out)) (Below.refl _ _).drew (Nat.le_refl _)
  have hb5 : Below w2.heap.size w2 ((w4.setCell ⟨w2.heap.size, 4, none⟩ (.int .i64 (1 + pickE o1.qty 30))).setCell ⟨w2.heap.size, 3, none⟩ (.int .i64 (max 1 (c.pr - 20 + pickE o1.price 40)))).drew := ((HB4.out.setCell (p := ⟨w2.heap.size, 4, none⟩) (Nat.le_refl _) _).setCell (p := ⟨w2.heap.size, 3, none⟩) (Nat.le_refl _) _).drew
  generalize ((w4.setCell ⟨w2.heap.size, 4, none⟩ (.int .i64 (1 + pickE o1.qty 30))).setCell ⟨w2.heap.size, 3, none⟩ (.int .i64 (max 1 (c.pr - 20 + pickE o1.price 40)))).drew = w5 at h5 hb5 ⊢
  have HX5 : Hid (OrdAt w5 w2.heap.size o2) := h5
  have HB5 : Hid (Below w2.heap.size w2 w5) := hb5
  have hwsd : (Lit.int .i64 o2.side).wf = true := by rw [ho2]; show (Lit.int .i64 o1.side).wf = true; exact HO1s.out
  have HO2 : Hid (1 ≤ o2.id ∧ o2.id ≤ 500 ∧ 1 ≤ o2.qty ∧ o2.qty ≤ 30) := by
    have e1 : o2.id = 1 + pickE o.id 500 := by rw [ho2]; exact HO1.out
    have e2 : o2.qty = 1 + pickE o1.qty 30 := by rw [ho2]
    show _ ∧ _
    omega
  have hwid : (Lit.int .i64 o2.id).wf = true := WalkArith.wf_i64 (by have := HO2.out; omega)
  have HD5 : Hid (Day w5 base c d M lots side since hands) := H2.out.below HB5.out
  clear h5 hb5 HX4 HB4 HS4 hHS y0 y1 y2 y3 y4 g3 g4 r3 r4 r5 p0 p3 p4 ho2 HO1
  obtain ⟨y0, y1, y2, y3, y4⟩ := lieO_cells HX5.out
  go_wp2_with fail
  refine (egOrder d.eb d.k M o2 w5 HD5.out.eg HNUM.out hwid (by omega)).mono ?_
  rintro e w6 ⟨vf, err, rfl, he, k6, hr, hg, hk⟩
  have HB52 : Hid (Below base w w5) := HBB.out.trans (HB5.out.mono hb2)
  have hb5 : base ≤ w5.heap.size := Nat.le_trans hb HB52.out.size
  obtain ⟨l1, l2, l3⟩ := ordM_len (o := o2) HF1.out
  have HD6 : Hid (Day w6 base c { d with k := k6 } (ordM M o2).2 lots side since hands) := HD5.out.ofEg hg hb5 l2
  have HB6 : Hid (Below base w w6) := HB52.out.trans (HD5.out.belGo hg hb5)
  have HX6 : Hid (OrdAt w6 w2.heap.size o2) := blk_out HX5.out hg.2.1 (fun e => absurd (H2.out.eg.lt e) (by omega))
  have HT6 : Hid (w6.heap[w.heap.size]? = some (.cells #[.int .i64 what, .int .i64 o.id, .int .i64 o.side, .int .i64 o.kind, .int .i64 o.price, .int .i64 o.qty] 80 (0, 0))) := blk_out (blk_below HX2.out HB5.out (Nat.le_refl _)) hg.2.1 (fun e => absurd (H.out.eg.lt e) (by omega))
  have HR6 : Hid (w6.ownsRow w.heap.size 115 4 vf (ordM M o2).1.length (fV (ordM M o2).1)) := owns_base hr HB52.out.size
  have HL : Hid ((ordM M o2).1.length ≤ 101 ∧ (ordM M o2).2.now = M.now) := ⟨l1, l3⟩
  have HK6 : Hid (k6.m ≤ d.k.m + 302) := hk
  clear hg hr hk l1 l2 l3 y0 y1 y2 y3 y4
  rcases he with ⟨rfl, h0⟩ | ⟨rfl, h0⟩
  · obtain ⟨f1, f2, f3, f4⟩ := HI.out.order_yes HLK.out hwid h0
    have HFO : Hid (FillsOk (upF side o2.id o2.side) (upF lots o2.id o2.qty) (ordM M o2).1 ∧ BandsOk M.st M.dy M.an M.la (ordM M o2).1 ∧ ((ordM M o2).1 ≠ [] → M.ph = 3) ∧ DayInv (ordM M o2).2 (fillsUp (upF lots o2.id o2.qty) (ordM M o2).1) (upF side o2.id o2.side) (sinceN (ordM M o2).2 since) hands) := ⟨f1, f2, f3, f4⟩
    clear f1 f2 f3 f4 h0
    go_upto_region 13 with fail
    have H6d : Hid (Day w6.drew base c { d with k := k6 } (ordM M o2).2 lots side since hands) := HD6.out.below (Below.refl _ _).drew
    obtain ⟨v0, s0, wa, ra, oa, fa⟩ := H6d.out.lo.entry (id := o2.id) (by show d.nl ≤ 1000000; omega) hwid
    obtain ⟨wb, rb, ob, kb⟩ := fa wa o2.qty (WalkArith.wf_i64 (by have := HO2.out; omega)) rfl
    have OB : Hid (Out (fun j => j = d.lb) w6.drew wb) := out_then oa ob
    have HDb : Hid (Day wb base c { d with k := k6, nl := d.nl + 1 } (ordM M o2).2 (upF lots o2.id o2.qty) side since hands) := H6d.out.ofLots kb OB.out
    obtain ⟨v1, s1, wc, rc, oc, fc⟩ := HDb.out.si.entry (id := o2.id) (by show d.ns ≤ 1000000; omega) hwid
    have hws : (Lit.int .i64 o2.side).wf = true := hwsd
    obtain ⟨wd, rd, od, kd⟩ := fc wc o2.side hws rfl
    have OD : Hid (Out (fun j => j = d.sb) wb wd) := out_then oc od
    have HDd : Hid (Day wd base c { d with k := k6, nl := d.nl + 1, ns := d.ns + 1 } (ordM M o2).2 (upF lots o2.id o2.qty) (upF side o2.id o2.side) since hands) := HDb.out.ofSide kd OD.out (fun id hne => by
      by_cases e : id = o2.id
      · rw [e]; exact hwid
      · rw [upF_other e] at hne; exact HD6.out.sw id hne)
    have OA : Hid (Out (fun j => j = d.lb ∨ j = d.sb) w6.drew wa) := oa.mono (fun _ e => Or.inl e)
    have OB2 : Hid (Out (fun j => j = d.lb ∨ j = d.sb) w6.drew wb) := OB.out.mono (fun _ e => Or.inl e)
    have OC2 : Hid (Out (fun j => j = d.lb ∨ j = d.sb) w6.drew wc) := out_then OB2.out (oc.mono (fun _ e => Or.inr e))
    have OD2 : Hid (Out (fun j => j = d.lb ∨ j = d.sb) w6.drew wd) := out_then OB2.out (OD.out.mono (fun _ e => Or.inr e))
    have HS : Hid (∀ w', Out (fun j => j = d.lb ∨ j = d.sb) w6.drew w' → w'.cell? ⟨d.db, 7, none⟩ = some (.map (some d.lb)) ∧ w'.cell? ⟨d.db, 8, none⟩ = some (.map (some d.sb)) ∧ w'.cell? ⟨w2.heap.size, 0, none⟩ = some (.int .i64 o2.id) ∧ w'.cell? ⟨w2.heap.size, 1, none⟩ = some (.int .i64 o2.side) ∧ w'.cell? ⟨w2.heap.size, 4, none⟩ = some (.int .i64 o2.qty)) := fun w' ho => by
      have hbox := blk_out H6d.out.box ho (fun e => e.elim H6d.out.dbm.1 H6d.out.dbm.2)
      have hord : OrdAt w' w2.heap.size o2 := blk_out (blk_below HX6.out (Below.refl _ _).drew (Nat.le_refl _)) ho (fun e => by
        have h1 := H2.out.lo.lt
        have h2 := H2.out.si.lt
        rcases e with e | e
        · have e' : w2.heap.size = d.lb := e
          omega
        · have e' : w2.heap.size = d.sb := e
          omega)
      obtain ⟨z0, z1, _, _, z4⟩ := lieO_cells hord
      exact ⟨blk_cell (j := 7) hbox rfl, blk_cell (j := 8) hbox rfl, z0, z1, z4⟩
    clear oa fa ob kb oc fc od kd OB OD
    refine wp_region_lateM (fun _ w' => w'.cell? ⟨d.db, 7, none⟩ = some (.map (some d.lb)) ∧ w'.cell? ⟨d.db, 8, none⟩ = some (.map (some d.sb)) ∧ w'.cell? ⟨w2.heap.size, 0, none⟩ = some (.int .i64 o2.id) ∧ w'.cell? ⟨w2.heap.size, 1, none⟩ = some (.int .i64 o2.side) ∧ w'.cell? ⟨w2.heap.size, 4, none⟩ = some (.int .i64 o2.qty)) (fun _ _ => false) (by kernel_rfl) (fun _ => HS.out _ (Out.refl _ _)) (fun hHeld => ?_)
    refine wpAnyM_take 0 (i := 0) (v := ?_) rfl (by kernel_rfl) (by kernel_rfl) (by kernel_rfl) (by kernel_rfl) (by kernel_rfl) (by first | exact fun _ _ _ h => h | exact fun _ _ _ h => HP.out _ _ _ _ (by rfl) h) (by rfl) ?_ (hHeld 0) ?_
    rotate_left
    · intro w hSw
      try simp only [lateS_zero] at hSw
      try dsimp only at hSw
      go_simp
      try rfl
    refine wpAnyM_take 0 (i := 1) (v := ?_) rfl (by kernel_rfl) (by kernel_rfl) (by kernel_rfl) (by kernel_rfl) (by kernel_rfl) (by first | exact fun _ _ _ h => h | exact fun _ _ _ h => HP.out _ _ _ _ (by rfl) h) (by rfl) ?_ (hHeld 0) ?_
    rotate_left
    · intro w hSw
      try simp only [lateS_zero] at hSw
      try dsimp only at hSw
      go_simp
      try rfl
    refine wpAnyM_take 0 (i := 2) (v := ?_) rfl (by kernel_rfl) (by kernel_rfl) (by kernel_rfl) (by kernel_rfl) (by kernel_rfl) (by first | exact fun _ _ _ h => h | exact fun _ _ _ h => HP.out _ _ _ _ (by rfl) h) (by rfl) ?_ (hHeld 0) ?_
    rotate_left
    · intro w hSw
      try simp only [lateS_zero] at hSw
      try dsimp only at hSw
      go_simp
      try rfl
    refine wpAnyM_take 0 (i := 3) (v := ?_) rfl (by kernel_rfl) (by kernel_rfl) (by kernel_rfl) (by kernel_rfl) (by kernel_rfl) (by first | exact fun _ _ _ h => h | exact fun _ _ _ h => HP.out _ _ _ _ (by rfl) h) (by rfl) ?_ (hHeld 0) ?_
    rotate_left
    · intro w hSw
      try simp only [lateS_zero] at hSw
      try dsimp only at hSw
      go_simp
      try rfl
    refine wpAnyM_take 0 (i := 4) (v := ?_) rfl (by kernel_rfl) (by kernel_rfl) (by kernel_rfl) (by kernel_rfl) (by kernel_rfl) (by first | exact fun _ _ _ h => h | exact fun _ _ _ h => HP.out _ _ _ _ (by rfl) h) (by rfl) ?_ (hHeld 0) ?_
    rotate_left
    · intro w hSw
      try simp only [lateS_zero] at hSw
      try dsimp only at hSw
      go_simp
      try rfl
    refine wpAnyM_take 0 (i := 5) (v := ?_) rfl (by kernel_rfl) (by kernel_rfl) (by kernel_rfl) (by kernel_rfl) (by kernel_rfl) (by first | exact fun _ _ _ h => h | exact fun _ _ _ h => HP.out _ _ _ _ (by rfl) h) (by rfl) ?_ (hHeld 0) ?_
    rotate_left
    · intro w hSw
      try simp only [lateS_zero] at hSw
      try dsimp only at hSw
      go_simp
      try rfl
    refine wpAnyM_take 0 (i := 6) (v := ?_) rfl (by kernel_rfl) (by kernel_rfl) (by kernel_rfl) (by kernel_rfl) (by kernel_rfl) (by first | exact fun _ _ _ h => h | exact fun _ _ _ h => HP.out _ _ _ _ (by rfl) h) (by rfl) ?_ (hHeld 0) ?_
    rotate_left
    · intro w hSw
      try simp only [lateS_zero] at hSw
      try dsimp only at hSw
      go_simp
      try rfl
    refine wpAnyM_take 0 (i := 7) (v := ?_) rfl (by kernel_rfl) (by kernel_rfl) (by kernel_rfl) (by kernel_rfl) (by kernel_rfl) (by first | exact fun _ _ _ h => h | exact fun _ _ _ h => HP.out _ _ _ _ (by rfl) h) (by rfl) ?_ (hHeld 0) ?_
    rotate_left
    · intro w hSw
      try simp only [lateS_zero] at hSw
      try dsimp only at hSw
      go_simp
      try rfl
    refine wpAnyM_take 0 (i := 8) (v := ?_) rfl (by kernel_rfl) (by kernel_rfl) (by kernel_rfl) (by kernel_rfl) (by kernel_rfl) (by first | exact fun _ _ _ h => h | exact fun _ _ _ h => HP.out _ _ _ _ (by rfl) h) (by rfl) ?_ (hHeld 0) ?_
    rotate_left
    · intro w hSw
      try simp only [lateS_zero] at hSw
      try dsimp only at hSw
      go_simp
      try rfl
    refine wpAnyM_take 0 (i := 9) (v := ?_) rfl (by kernel_rfl) (by kernel_rfl) (by kernel_rfl) (by kernel_rfl) (by kernel_rfl) (by first | exact fun _ _ _ h => h | exact fun _ _ _ h => HP.out _ _ _ _ (by rfl) h) (by rfl) ?_ (hHeld 0) ?_
    rotate_left
    · intro w hSw
      try simp only [lateS_zero] at hSw
      try dsimp only at hSw
      go_simp
      try rfl
    refine wpAnyM_take 0 (i := 10) (v := ?_) rfl (by kernel_rfl) (by kernel_rfl) (by kernel_rfl) (by kernel_rfl) (by kernel_rfl) (by first | exact fun _ _ _ h => h | exact fun _ _ _ h => HP.out _ _ _ _ (by rfl) h) (by rfl) ?_ (hHeld 0) ?_
    rotate_left
    · intro w hSw
      try simp only [lateS_zero] at hSw
      try dsimp only at hSw
      go_simp
      try rfl
    refine wpAnyM_take 0 (i := 11) (v := ?_) rfl (by kernel_rfl) (by kernel_rfl) (by kernel_rfl) (by kernel_rfl) (by kernel_rfl) (by first | exact fun _ _ _ h => h | exact fun _ _ _ h => HP.out _ _ _ _ (by rfl) h) (by rfl) ?_ (hHeld 0) ?_
    rotate_left
    · intro w hSw
      try simp only [lateS_zero] at hSw
      try dsimp only at hSw
      go_simp
      try rfl
    refine wpAnyM_take 0 (i := 12) (v := ?_) rfl (by kernel_rfl) (by kernel_rfl) (by kernel_rfl) (by kernel_rfl) (by kernel_rfl) (by first | exact fun _ _ _ h => h | exact fun _ _ _ h => HP.out _ _ _ _ (by rfl) h) (by rfl) ?_ (hHeld 0) ?_
    rotate_left
    · intro w hSw
      try simp only [lateS_zero] at hSw
      try dsimp only at hSw
      go_simp
      try rfl
    refine wpAnyM_take 0 (i := 13) (v := ?_) rfl (by kernel_rfl) (by kernel_rfl) (by kernel_rfl) (by kernel_rfl) (by kernel_rfl) (by first | exact fun _ _ _ h => h | exact fun _ _ _ h => HP.out _ _ _ _ (by rfl) h) (by rfl) ?_ (hHeld 0) ?_
    rotate_left
    · intro w hSw
      try simp only [lateS_zero] at hSw
      try dsimp only at hSw
      go_simp
      try rfl
    refine wpAnyM_take 0 (i := 14) (v := ?_) rfl (by kernel_rfl) (by kernel_rfl) (by kernel_rfl) (by kernel_rfl) (by kernel_rfl) (by first | exact fun _ _ _ h => h | exact fun _ _ _ h => HP.out _ _ _ _ (by rfl) h) (by rfl) ?_ (hHeld 0) ?_
    rotate_left
    · intro w hSw
      try simp only [lateS_zero] at hSw
      try dsimp only at hSw
      go_simp
      try rfl
    refine wpAnyM_take 0 (i := 15) (v := ?_) rfl (by kernel_rfl) (by kernel_rfl) (by kernel_rfl) (by kernel_rfl) (by kernel_rfl) (by first | exact fun _ _ _ h => h | exact fun _ _ _ h => HP.out _ _ _ _ (by rfl) h) (by rfl) ?_ (hHeld 0) ?_
    rotate_left
    · intro w hSw
      try simp only [lateS_zero] at hSw
      try dsimp only at hSw
      go_simp
      try rfl
    refine wpAnyM_one (i := 16) (by kernel_rfl) rfl (fun K hK => ?_)
    go_simp
    refine hK.out _ _ (fun _ _ _ => HS.out _ OA.out) ?_
    clear hK K
    refine wpAnyM_pure (i := 17) (v := ?_) rfl (by kernel_rfl) (by kernel_rfl) (by kernel_rfl) (by kernel_rfl) (by first | exact fun _ _ _ h => h | exact fun _ _ _ h => HP.out _ _ _ _ (by rfl) h) (by rfl) ?_ ?_
    rotate_left
    · intro w
      go_simp
      try rfl
    refine wpAnyM_one (i := 18) (by kernel_rfl) rfl (fun K hK => ?_)
    go_simp
    refine hK.out _ _ (fun _ _ _ => HS.out _ OB2.out) ?_
    clear hK K
    refine wpAnyM_one (i := 19) (by kernel_rfl) rfl (fun K hK => ?_)
    go_simp
    refine hK.out _ _ (fun _ _ _ => HS.out _ OC2.out) ?_
    clear hK K
    refine wpAnyM_pure (i := 20) (v := ?_) rfl (by kernel_rfl) (by kernel_rfl) (by kernel_rfl) (by kernel_rfl) (by first | exact fun _ _ _ h => h | exact fun _ _ _ h => HP.out _ _ _ _ (by rfl) h) (by rfl) ?_ ?_
    rotate_left
    · intro w
      go_simp
      try rfl
    refine wpAnyM_one (i := 21) (by kernel_rfl) rfl (fun K hK => ?_)
    go_simp
    refine hK.out _ _ (fun _ _ _ => HS.out _ OD2.out) ?_
    clear hK K
    refine wpAnyM_done (by kernel_rfl) ?_ _
    have HM : Hid (DoMid w base c d M since what vf wd ∧ wd.heap[w.heap.size]? = some (.cells #[.int .i64 what, .int .i64 o.id, .int .i64 o.side, .int .i64 o.kind, .int .i64 o.price, .int .i64 o.qty] 80 (0, 0))) := by
      have hown : ∀ j, j = d.lb ∨ j = d.sb → base ≤ j := fun j hj => hj.elim (fun e => by rw [e]; exact H.out.own _ (Or.inr (Or.inr (Or.inl rfl)))) (fun e => by rw [e]; exact H.out.own _ (Or.inr (Or.inr (Or.inr rfl))))
      refine ⟨⟨{ d with k := k6, nl := d.nl + 1, ns := d.ns + 1 }, (ordM M o2).2, upF lots o2.id o2.qty, upF side o2.id o2.side, hands, (ordM M o2).1, HDd.out, owns_out (owns_below HR6.out (Below.refl _ _).drew (Nat.le_refl _)) OD2.out (fun j hj e => ?_), HFO.out.1, fun id => ?_, HL.out.1, ?_, fun _ => ⟨HFO.out.2.1, HFO.out.2.2.1⟩, ⟨rfl, rfl⟩, HK6.out, Nat.le_refl _, Nat.le_refl _, NowGo.same HL.out.2, (HB6.out.trans (Below.refl _ _).drew).trans (H6d.out.mine OD2.out hown (Nat.le_trans hb HB6.out.size))⟩, blk_out (blk_below HT6.out (Below.refl _ _).drew (Nat.le_refl _)) OD2.out (fun e => ?_)⟩
      · have h1 := (HR6.out.lt j hj).1
        have h2 := H.out.lo.lt
        have h3 := H.out.si.lt
        rcases e with e | e <;> omega
      · by_cases e : id = o2.id
        · rw [e, upF_same]; have := HO2.out; omega
        · rw [upF_other e]; exact HI.out.lb id
      · rw [if_neg (by rw [HE0.out]; decide)]; exact HFO.out.2.2.2
      · have h2 := H.out.lo.lt
        have h3 := H.out.si.lt
        rcases e with e | e
        · have e' : w.heap.size = d.lb := e
          omega
        · have e' : w.heap.size = d.sb := e
          omega
    clear ra rb rc rd HS OA OB2 OC2 OD2
    go_wp2_with fail
    exact HQ.out _ _ _ _ _ _ _ _ _ _ _ _ _ _ _ _ _ _ _ _ _ _ _ _ _ _ _ _ _ _ _ _ _ _ _ _ _ _ _ _ _ _ _ _ _ _ _ _ _ _ _ _ _ _ _ _ _ _ _ _ _ _ _ _ _ _ _ _ _ _ _ _ _ _ _ _ _ _ _ _ _ _ _ _ _ _ _ _ _ _ _ _ _ _ _ _ _ _ _ _ _ _ _ _ _ _ _ _ _ _ _ _ _ _ _ _ _ _ _ _ _ _ HM.out
  · obtain ⟨en, ei⟩ := HI.out.order_no h0
    have HM : Hid (DoMid w base c d M since what vf w6 ∧ w6.heap[w.heap.size]? = some (.cells #[.int .i64 what, .int .i64 o.id, .int .i64 o.side, .int .i64 o.kind, .int .i64 o.price, .int .i64 o.qty] 80 (0, 0))) := by
      refine ⟨⟨{ d with k := k6 }, (ordM M o2).2, lots, side, hands, (ordM M o2).1, HD6.out, HR6.out, (by rw [en]; trivial), HI.out.lb, HL.out.1, ?_, fun _ => ⟨(by rw [en]; trivial), fun e => absurd en e⟩, ⟨rfl, rfl⟩, HK6.out, Nat.le_succ _, Nat.le_succ _, NowGo.same HL.out.2, HB6.out⟩, HT6.out⟩
      rw [if_neg (by rw [HE0.out]; decide), en]
      exact ei
    clear en ei h0
    go_wp2_with fail
    exact HQ.out _ _ _ _ _ _ _ _ _ _ _ _ _ _ _ _ _ _ _ _ _ _ _ _ _ _ _ _ _ _ _ _ _ _ _ _ _ _ _ _ _ _ _ _ _ _ _ _ _ _ _ _ _ _ _ _ _ _ _ _ _ _ _ _ _ _ _ _ _ _ _ _ _ _ _ _ _ _ _ _ _ _ _ _ _ _ _ _ _ _ _ _ _ _ _ _ _ _ _ _ _ _ _ _ _ _ _ _ _ _ _ _ _ _ _ _ _ _ _ _ _ _ HM.out
end Go.Proofs.YtjdkagafdnchhaaGreatDoor
