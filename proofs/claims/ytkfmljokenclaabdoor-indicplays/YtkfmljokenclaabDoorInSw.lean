/-
  The law IndicPlays' own switch, over this seat's translation: what an order that comes, or lots that go, do to the program's Indic and to the law's map; both stay of one mind. Conditions stand in each theorem.
-/
import Derived.Test.YtkfmljokenclaabDoorInBoth
namespace Go.Proofs.YtkfmljokenclaabDoor
open Go.RowKit

/-- a block of a function's own code, by its number -/
def findBlock (m : Nat) : Code → Option Code
  | .block k c => if k = m then some (.block k c) else findBlock m c
  | .seq a b => match findBlock m a with
    | some c => some c
    | none => findBlock m b
  | .cond _ a b => match findBlock m a with
    | some c => some c
    | none => findBlock m b
  | .loop c => findBlock m c
  | .scope c => findBlock m c
  | _ => none
noncomputable def swC : Code := ((Tryd.f3.body.bind (findBlock 2)).getD .skip)

set_option maxRecDepth 100000 in
set_option maxHeartbeats 40000000 in
theorem swAdd (b off len cap i x : Nat) (more ev : Int) (o : Ord) (v : Value) (n : Int → Int → Int → Int) (w wc : World) (Q : Exit → Act → World → Prop) (c2 c3 c4 c11 c12 c13 c14 c15 c16 c17 c18 c19 c20 c21 c22 c23 c24 c25 c26 d27 d28 d29 d30 d31 d32 d33 d34 d35 d36 d37 d38 d39 d40 d41 d42 d43 d44 d45 d46 d47 d48 d49 d50 d51 d52 d53 d54 d55 d56 d57 d58 d59 d60 d61 d62 d63 d64 d65 d66 d67 d68 d69 d70 d71 d72 d73 d74 d75 d76 d77 d78 d79 d80 d81 d83 d84 d85 d86 d87 d88 d89 d90 d91 d92 d93 d94 d95 d96 d97 d98 d99 d100 d101 d102 d103 d104 d105 d106 d107 d108 d109 d110 d111 d112 d113 d114 d115 d116 d117 d118 d119 d120 d121 d122 d123 d124 d125 d126 d127 d128 d129 d130 d131 d132 d133 d134 d135 d136 d137 d138 d139 d140 d141 d142 d143 d144 d145 d146 d147 d148 d149 d150 d151 d152 d153 d154 d155 d156 d157 d158 d159 d160 d161 d162 d163 d164 d165 d166 d167 d168 d169 d170 d171 d172 d173 d174 : Value) (hn : len ≤ 100) (hlt : i < len) (HG : Hid (ErrT w)) (HB : Hid (Both w wc v n i)) (HO : Hid (OBox wc x o)) (HP : Hid (PBox wc (x + 1) o)) (HLE : Hid ((lieB o = true → ev = 0) ∧ (lieB o = false → ev = 1))) 
    (hQ : ∀ (e10 e27 e28 e29 e30 e31 e32 e33 e34 e35 e36 e37 e38 e39 e40 e41 e42 e43 e44 e45 e46 e47 e48 e49 e50 e51 e52 e53 e54 e55 e56 e57 e58 e59 e60 e61 e62 e63 e64 e65 e66 e67 e68 e69 e70 e71 e72 e73 e74 e75 e76 e77 e78 e79 e80 e81 e82 e83 e84 e85 e86 e87 e88 e89 e90 e91 e92 e93 e94 e95 e96 e97 e98 e99 e100 e101 e102 e103 e104 e105 e106 e107 e108 e109 e110 e111 e112 e113 e114 e115 e116 e117 e118 e119 e120 e121 e122 e123 e124 e125 e126 e127 e128 e129 e130 e131 e132 e133 e134 e135 e136 e137 e138 e139 e140 e141 e142 e143 e144 e145 e146 e147 e148 e149 e150 e151 e152 e153 e154 e155 e156 e157 e158 e159 e160 e161 e162 e163 e164 e165 e166 e167 e168 e169 e170 e171 e172 e173 e174 : Value) (wd : World), (∃ (v' : Value) (n' : Int → Int → Int → Int), Both w wd v' n' (i + 1)) → Q .normal ⟨#[.slice (some ⟨b, off, none⟩) len cap, .int .i64 more, c2, c3, c4, .pointer (some ⟨w.heap.size, 0, none⟩), .map (some (w.heap.size + 1)), .int .i64 i, .pointer (some ⟨x, 0, none⟩), .pointer (some ⟨x + 1, 0, none⟩), e10, c11, c12, c13, c14, c15, c16, c17, c18, c19, c20, c21, c22, c23, c24, c25, c26, e27, e28, e29, e30, e31, e32, e33, e34, e35, e36, e37, e38, e39, e40, e41, e42, e43, e44, e45, e46, e47, e48, e49, e50, e51, e52, e53, e54, e55, e56, e57, e58, e59, e60, e61, e62, e63, e64, e65, e66, e67, e68, e69, e70, e71, e72, e73, e74, e75, e76, e77, e78, e79, e80, e81, e82, e83, e84, e85, e86, e87, e88, e89, e90, e91, e92, e93, e94, e95, e96, e97, e98, e99, e100, e101, e102, e103, e104, e105, e106, e107, e108, e109, e110, e111, e112, e113, e114, e115, e116, e117, e118, e119, e120, e121, e122, e123, e124, e125, e126, e127, e128, e129, e130, e131, e132, e133, e134, e135, e136, e137, e138, e139, e140, e141, e142, e143, e144, e145, e146, e147, e148, e149, e150, e151, e152, e153, e154, e155, e156, e157, e158, e159, e160, e161, e162, e163, e164, e165, e166, e167, e168, e169, e170, e171, e172, e173, e174], []⟩ wd) :
    Code.wp Tryd.prog swC Q ⟨#[.slice (some ⟨b, off, none⟩) len cap, .int .i64 more, c2, c3, c4, .pointer (some ⟨w.heap.size, 0, none⟩), .map (some (w.heap.size + 1)), .int .i64 i, .pointer (some ⟨x, 0, none⟩), .pointer (some ⟨x + 1, 0, none⟩), .int .i64 ev, c11, c12, c13, c14, c15, c16, c17, c18, c19, c20, c21, c22, c23, c24, c25, c26, d27, d28, d29, d30, d31, d32, d33, d34, d35, d36, d37, d38, d39, d40, d41, d42, d43, d44, d45, d46, d47, d48, d49, d50, d51, d52, d53, d54, d55, d56, d57, d58, d59, d60, d61, d62, d63, d64, d65, d66, d67, d68, d69, d70, d71, d72, d73, d74, d75, d76, d77, d78, d79, d80, d81, .int .i64 0, d83, d84, d85, d86, d87, d88, d89, d90, d91, d92, d93, d94, d95, d96, d97, d98, d99, d100, d101, d102, d103, d104, d105, d106, d107, d108, d109, d110, d111, d112, d113, d114, d115, d116, d117, d118, d119, d120, d121, d122, d123, d124, d125, d126, d127, d128, d129, d130, d131, d132, d133, d134, d135, d136, d137, d138, d139, d140, d141, d142, d143, d144, d145, d146, d147, d148, d149, d150, d151, d152, d153, d154, d155, d156, d157, d158, d159, d160, d161, d162, d163, d164, d165, d166, d167, d168, d169, d170, d171, d172, d173, d174], []⟩ wc := by
  have HQ : Hid (∀ (e10 e27 e28 e29 e30 e31 e32 e33 e34 e35 e36 e37 e38 e39 e40 e41 e42 e43 e44 e45 e46 e47 e48 e49 e50 e51 e52 e53 e54 e55 e56 e57 e58 e59 e60 e61 e62 e63 e64 e65 e66 e67 e68 e69 e70 e71 e72 e73 e74 e75 e76 e77 e78 e79 e80 e81 e82 e83 e84 e85 e86 e87 e88 e89 e90 e91 e92 e93 e94 e95 e96 e97 e98 e99 e100 e101 e102 e103 e104 e105 e106 e107 e108 e109 e110 e111 e112 e113 e114 e115 e116 e117 e118 e119 e120 e121 e122 e123 e124 e125 e126 e127 e128 e129 e130 e131 e132 e133 e134 e135 e136 e137 e138 e139 e140 e141 e142 e143 e144 e145 e146 e147 e148 e149 e150 e151 e152 e153 e154 e155 e156 e157 e158 e159 e160 e161 e162 e163 e164 e165 e166 e167 e168 e169 e170 e171 e172 e173 e174 : Value) (wd : World), (∃ (v' : Value) (n' : Int → Int → Int → Int), Both w wd v' n' (i + 1)) → Q .normal ⟨#[.slice (some ⟨b, off, none⟩) len cap, .int .i64 more, c2, c3, c4, .pointer (some ⟨w.heap.size, 0, none⟩), .map (some (w.heap.size + 1)), .int .i64 i, .pointer (some ⟨x, 0, none⟩), .pointer (some ⟨x + 1, 0, none⟩), e10, c11, c12, c13, c14, c15, c16, c17, c18, c19, c20, c21, c22, c23, c24, c25, c26, e27, e28, e29, e30, e31, e32, e33, e34, e35, e36, e37, e38, e39, e40, e41, e42, e43, e44, e45, e46, e47, e48, e49, e50, e51, e52, e53, e54, e55, e56, e57, e58, e59, e60, e61, e62, e63, e64, e65, e66, e67, e68, e69, e70, e71, e72, e73, e74, e75, e76, e77, e78, e79, e80, e81, e82, e83, e84, e85, e86, e87, e88, e89, e90, e91, e92, e93, e94, e95, e96, e97, e98, e99, e100, e101, e102, e103, e104, e105, e106, e107, e108, e109, e110, e111, e112, e113, e114, e115, e116, e117, e118, e119, e120, e121, e122, e123, e124, e125, e126, e127, e128, e129, e130, e131, e132, e133, e134, e135, e136, e137, e138, e139, e140, e141, e142, e143, e144, e145, e146, e147, e148, e149, e150, e151, e152, e153, e154, e155, e156, e157, e158, e159, e160, e161, e162, e163, e164, e165, e166, e167, e168, e169, e170, e171, e172, e173, e174], []⟩ wd) := hQ
  clear hQ
  have q0 : (0 : Int) ≤ (i : Int) := by omega
  have q1 : (i : Int) < (len : Int) := by omega
  have o0 := blk_cell (j := 0) HO.out rfl
  have o1 := blk_cell (j := 1) HO.out rfl
  have o2 := blk_cell (j := 2) HO.out rfl
  have o3 := blk_cell (j := 3) HO.out rfl
  have o4 := blk_cell (j := 4) HO.out rfl
  have p0 := blk_cell (j := 0) HP.out rfl
  have p1 := blk_cell (j := 1) HP.out rfl
  have p2 := blk_cell (j := 2) HP.out rfl
  conv => arg 2; whnf
  cases hl : lieB o with
  | false =>
    have he : ev = 1 := HLE.out.2 hl
    have HL : Hid (lieB o = false) := hl
    subst he
    clear hl
    go_wp2_with fail
    refine (inAdd_no w.heap.size o wc HL.out).mono ?_
    rintro e w1 ⟨rfl, hb1⟩
    have HB1 : Hid (Both w w1 v n i) := HB.out.below hb1
    clear hb1
    go_wp2_with fail
    refine (bare_yes _ 1 _ (HG.out.below HB1.out.bel) (Or.inr (Or.inl ⟨rfl, rfl⟩))).mono ?_
    rintro e w2 ⟨rfl, hb2⟩
    have HB2 : Hid (Both w w2 v n i) := HB1.out.below hb2
    clear hb2 o0 o1 o2 o3 o4 p0 p1 p2
    go_wp2_with fail
    exact HQ.out _ _ _ _ _ _ _ _ _ _ _ _ _ _ _ _ _ _ _ _ _ _ _ _ _ _ _ _ _ _ _ _ _ _ _ _ _ _ _ _ _ _ _ _ _ _ _ _ _ _ _ _ _ _ _ _ _ _ _ _ _ _ _ _ _ _ _ _ _ _ _ _ _ _ _ _ _ _ _ _ _ _ _ _ _ _ _ _ _ _ _ _ _ _ _ _ _ _ _ _ _ _ _ _ _ _ _ _ _ _ _ _ _ _ _ _ _ _ _ _ _ _ _ _ _ _ _ _ _ _ _ _ _ _ _ _ _ _ _ _ _ _ _ _ _ _ _ _ _ _ ⟨v, n, HB2.out.more⟩
  | true =>
    have he : ev = 0 := HLE.out.1 hl
    have HL : Hid (lieB o = true) := hl
    subst he
    obtain ⟨hs, hq, _⟩ := lieB_iff.1 hl
    have hnn := HB.out.ok.nn o.side (plK o) (plP o)
    have hns := HB.out.ok.small o.side (plK o) (plP o)
    obtain ⟨v0, st, w1, w3, D, hD, hDM, hlk, hme, hlk1, hes, ho3, hM3, hO3, hP3⟩ := Both.entry HB.out (by omega) hl (y := n o.side (plK o) (plP o) + o.qty) (by omega) HO.out HP.out
    have HM3 : Hid (LtAt w3 (w.heap.size + 1) (up3 n o.side (plK o) (plP o) (n o.side (plK o) (plP o) + o.qty)) (i + 1)) := ⟨_, hM3, hD.put hDM (plOk_of hl).wf (by omega)⟩
    have HO3 : Hid (OBox w3 x o) := hO3
    have HW3 : Hid (Out (fun j => j = w.heap.size + 1) wc w3) := ho3
    have HIU := up_is (n := n) (o := o) (q := o.qty) hs rfl
    have HUP : Hid ((fun p => up3 n o.side (plK o) (plP o) (n o.side (plK o) (plP o) + o.qty) 1 0 p) = addB (fun p => n 1 0 p) o o.qty ∧ (fun p => up3 n o.side (plK o) (plP o) (n o.side (plK o) (plP o) + o.qty) 2 0 p) = addS (fun p => n 2 0 p) o o.qty ∧ up3 n o.side (plK o) (plP o) (n o.side (plK o) (plP o) + o.qty) 1 2 0 = addMb (n 1 2 0) o o.qty ∧ up3 n o.side (plK o) (plP o) (n o.side (plK o) (plP o) + o.qty) 2 2 0 = addMs (n 2 2 0) o o.qty) := HIU
    have HNK : Hid (NOk (up3 n o.side (plK o) (plP o) (n o.side (plK o) (plP o) + o.qty)) (i + 1)) := HB.out.ok.add (plOk_of hl) hq
    clear hl hD hDM hM3 hO3 hP3 ho3 HIU hs
    go_upto_region 18 with fail
    generalize n o.side (plK o) (plP o) = nn at hnn hns hlk hlk1 hes HM3 HUP HNK
    go_cut [] from 27 to 174 (fun wd => wd = w3)
    case first =>
      go_region
      all_goals go_wp2_with fail
      all_goals go_meet
      all_goals rfl
    case rest =>
      obtain rfl := hcut
      clear hlk hme hlk1 hes o0 o1 o2 o3 o4 p0 p1 p2
      have o0 := blk_cell (j := 0) HO3.out rfl
      have o1 := blk_cell (j := 1) HO3.out rfl
      have o2 := blk_cell (j := 2) HO3.out rfl
      have o3 := blk_cell (j := 3) HO3.out rfl
      have o4 := blk_cell (j := 4) HO3.out rfl
      obtain ⟨s1, s2, s3, s4⟩ := HB.out.small (by omega)
      go_wp2_with fail
      refine (inAdd w.heap.size v _ _ _ _ i o wc (HB.out.indOut HW3.out) (by omega) HL.out s1 s2 s3 s4).mono ?_
      rintro e w4 ⟨rfl, v', hI4, hO4, hW4⟩
      have HB4 : Hid (Both w w4 v' (up3 n o.side (plK o) (plP o) (nn + o.qty)) (i + 1)) := HB.out.step HW3.out HM3.out HNK.out hI4 hO4 hW4 HUP.out
      clear hI4 hO4 hW4 o0 o1 o2 o3 o4 s1 s2 s3 s4
      go_wp2_with fail
      refine (bare_yes _ 0 _ (HG.out.below HB4.out.bel) (Or.inl ⟨rfl, rfl, rfl⟩)).mono ?_
      rintro e w5 ⟨rfl, hb5⟩
      have HB5 : Hid (Both w w5 v' (up3 n o.side (plK o) (plP o) (nn + o.qty)) (i + 1)) := HB4.out.below hb5
      clear hb5
      go_wp2_with fail
      exact HQ.out _ _ _ _ _ _ _ _ _ _ _ _ _ _ _ _ _ _ _ _ _ _ _ _ _ _ _ _ _ _ _ _ _ _ _ _ _ _ _ _ _ _ _ _ _ _ _ _ _ _ _ _ _ _ _ _ _ _ _ _ _ _ _ _ _ _ _ _ _ _ _ _ _ _ _ _ _ _ _ _ _ _ _ _ _ _ _ _ _ _ _ _ _ _ _ _ _ _ _ _ _ _ _ _ _ _ _ _ _ _ _ _ _ _ _ _ _ _ _ _ _ _ _ _ _ _ _ _ _ _ _ _ _ _ _ _ _ _ _ _ _ _ _ _ _ _ _ _ _ _ ⟨v', _, HB5.out⟩

set_option maxRecDepth 100000 in
set_option maxHeartbeats 40000000 in
theorem swTake (b off len cap i x : Nat) (more ev : Int) (o : Ord) (v : Value) (n : Int → Int → Int → Int) (w wc : World) (Q : Exit → Act → World → Prop) (c2 c3 c4 c11 c12 c13 c14 c15 c16 c17 c18 c19 c20 c21 c22 c23 c24 c25 c26 d27 d28 d29 d30 d31 d32 d33 d34 d35 d36 d37 d38 d39 d40 d41 d42 d43 d44 d45 d46 d47 d48 d49 d50 d51 d52 d53 d54 d55 d56 d57 d58 d59 d60 d61 d62 d63 d64 d65 d66 d67 d68 d69 d70 d71 d72 d73 d74 d75 d76 d77 d78 d79 d80 d81 d83 d84 d85 d86 d87 d88 d89 d90 d91 d92 d93 d94 d95 d96 d97 d98 d99 d100 d101 d102 d103 d104 d105 d106 d107 d108 d109 d110 d111 d112 d113 d114 d115 d116 d117 d118 d119 d120 d121 d122 d123 d124 d125 d126 d127 d128 d129 d130 d131 d132 d133 d134 d135 d136 d137 d138 d139 d140 d141 d142 d143 d144 d145 d146 d147 d148 d149 d150 d151 d152 d153 d154 d155 d156 d157 d158 d159 d160 d161 d162 d163 d164 d165 d166 d167 d168 d169 d170 d171 d172 d173 d174 : Value) (hn : len ≤ 100) (hlt : i < len) (HG : Hid (ErrT w)) (HB : Hid (Both w wc v n i)) (HO : Hid (OBox wc x o)) (HP : Hid (PBox wc (x + 1) o)) (HLE : Hid ((lieB o = true → ev = 0) ∧ (lieB o = false → ev = 1))) 
    (hQ : ∀ (e10 e27 e28 e29 e30 e31 e32 e33 e34 e35 e36 e37 e38 e39 e40 e41 e42 e43 e44 e45 e46 e47 e48 e49 e50 e51 e52 e53 e54 e55 e56 e57 e58 e59 e60 e61 e62 e63 e64 e65 e66 e67 e68 e69 e70 e71 e72 e73 e74 e75 e76 e77 e78 e79 e80 e81 e82 e83 e84 e85 e86 e87 e88 e89 e90 e91 e92 e93 e94 e95 e96 e97 e98 e99 e100 e101 e102 e103 e104 e105 e106 e107 e108 e109 e110 e111 e112 e113 e114 e115 e116 e117 e118 e119 e120 e121 e122 e123 e124 e125 e126 e127 e128 e129 e130 e131 e132 e133 e134 e135 e136 e137 e138 e139 e140 e141 e142 e143 e144 e145 e146 e147 e148 e149 e150 e151 e152 e153 e154 e155 e156 e157 e158 e159 e160 e161 e162 e163 e164 e165 e166 e167 e168 e169 e170 e171 e172 e173 e174 : Value) (wd : World), (∃ (v' : Value) (n' : Int → Int → Int → Int), Both w wd v' n' (i + 1)) → Q .normal ⟨#[.slice (some ⟨b, off, none⟩) len cap, .int .i64 more, c2, c3, c4, .pointer (some ⟨w.heap.size, 0, none⟩), .map (some (w.heap.size + 1)), .int .i64 i, .pointer (some ⟨x, 0, none⟩), .pointer (some ⟨x + 1, 0, none⟩), e10, c11, c12, c13, c14, c15, c16, c17, c18, c19, c20, c21, c22, c23, c24, c25, c26, e27, e28, e29, e30, e31, e32, e33, e34, e35, e36, e37, e38, e39, e40, e41, e42, e43, e44, e45, e46, e47, e48, e49, e50, e51, e52, e53, e54, e55, e56, e57, e58, e59, e60, e61, e62, e63, e64, e65, e66, e67, e68, e69, e70, e71, e72, e73, e74, e75, e76, e77, e78, e79, e80, e81, e82, e83, e84, e85, e86, e87, e88, e89, e90, e91, e92, e93, e94, e95, e96, e97, e98, e99, e100, e101, e102, e103, e104, e105, e106, e107, e108, e109, e110, e111, e112, e113, e114, e115, e116, e117, e118, e119, e120, e121, e122, e123, e124, e125, e126, e127, e128, e129, e130, e131, e132, e133, e134, e135, e136, e137, e138, e139, e140, e141, e142, e143, e144, e145, e146, e147, e148, e149, e150, e151, e152, e153, e154, e155, e156, e157, e158, e159, e160, e161, e162, e163, e164, e165, e166, e167, e168, e169, e170, e171, e172, e173, e174], []⟩ wd) :
    Code.wp Tryd.prog swC Q ⟨#[.slice (some ⟨b, off, none⟩) len cap, .int .i64 more, c2, c3, c4, .pointer (some ⟨w.heap.size, 0, none⟩), .map (some (w.heap.size + 1)), .int .i64 i, .pointer (some ⟨x, 0, none⟩), .pointer (some ⟨x + 1, 0, none⟩), .int .i64 ev, c11, c12, c13, c14, c15, c16, c17, c18, c19, c20, c21, c22, c23, c24, c25, c26, d27, d28, d29, d30, d31, d32, d33, d34, d35, d36, d37, d38, d39, d40, d41, d42, d43, d44, d45, d46, d47, d48, d49, d50, d51, d52, d53, d54, d55, d56, d57, d58, d59, d60, d61, d62, d63, d64, d65, d66, d67, d68, d69, d70, d71, d72, d73, d74, d75, d76, d77, d78, d79, d80, d81, .int .i64 1, d83, d84, d85, d86, d87, d88, d89, d90, d91, d92, d93, d94, d95, d96, d97, d98, d99, d100, d101, d102, d103, d104, d105, d106, d107, d108, d109, d110, d111, d112, d113, d114, d115, d116, d117, d118, d119, d120, d121, d122, d123, d124, d125, d126, d127, d128, d129, d130, d131, d132, d133, d134, d135, d136, d137, d138, d139, d140, d141, d142, d143, d144, d145, d146, d147, d148, d149, d150, d151, d152, d153, d154, d155, d156, d157, d158, d159, d160, d161, d162, d163, d164, d165, d166, d167, d168, d169, d170, d171, d172, d173, d174], []⟩ wc := by
  have HQ : Hid (∀ (e10 e27 e28 e29 e30 e31 e32 e33 e34 e35 e36 e37 e38 e39 e40 e41 e42 e43 e44 e45 e46 e47 e48 e49 e50 e51 e52 e53 e54 e55 e56 e57 e58 e59 e60 e61 e62 e63 e64 e65 e66 e67 e68 e69 e70 e71 e72 e73 e74 e75 e76 e77 e78 e79 e80 e81 e82 e83 e84 e85 e86 e87 e88 e89 e90 e91 e92 e93 e94 e95 e96 e97 e98 e99 e100 e101 e102 e103 e104 e105 e106 e107 e108 e109 e110 e111 e112 e113 e114 e115 e116 e117 e118 e119 e120 e121 e122 e123 e124 e125 e126 e127 e128 e129 e130 e131 e132 e133 e134 e135 e136 e137 e138 e139 e140 e141 e142 e143 e144 e145 e146 e147 e148 e149 e150 e151 e152 e153 e154 e155 e156 e157 e158 e159 e160 e161 e162 e163 e164 e165 e166 e167 e168 e169 e170 e171 e172 e173 e174 : Value) (wd : World), (∃ (v' : Value) (n' : Int → Int → Int → Int), Both w wd v' n' (i + 1)) → Q .normal ⟨#[.slice (some ⟨b, off, none⟩) len cap, .int .i64 more, c2, c3, c4, .pointer (some ⟨w.heap.size, 0, none⟩), .map (some (w.heap.size + 1)), .int .i64 i, .pointer (some ⟨x, 0, none⟩), .pointer (some ⟨x + 1, 0, none⟩), e10, c11, c12, c13, c14, c15, c16, c17, c18, c19, c20, c21, c22, c23, c24, c25, c26, e27, e28, e29, e30, e31, e32, e33, e34, e35, e36, e37, e38, e39, e40, e41, e42, e43, e44, e45, e46, e47, e48, e49, e50, e51, e52, e53, e54, e55, e56, e57, e58, e59, e60, e61, e62, e63, e64, e65, e66, e67, e68, e69, e70, e71, e72, e73, e74, e75, e76, e77, e78, e79, e80, e81, e82, e83, e84, e85, e86, e87, e88, e89, e90, e91, e92, e93, e94, e95, e96, e97, e98, e99, e100, e101, e102, e103, e104, e105, e106, e107, e108, e109, e110, e111, e112, e113, e114, e115, e116, e117, e118, e119, e120, e121, e122, e123, e124, e125, e126, e127, e128, e129, e130, e131, e132, e133, e134, e135, e136, e137, e138, e139, e140, e141, e142, e143, e144, e145, e146, e147, e148, e149, e150, e151, e152, e153, e154, e155, e156, e157, e158, e159, e160, e161, e162, e163, e164, e165, e166, e167, e168, e169, e170, e171, e172, e173, e174], []⟩ wd) := hQ
  clear hQ
  have q0 : (0 : Int) ≤ (i : Int) := by omega
  have q1 : (i : Int) < (len : Int) := by omega
  have o0 := blk_cell (j := 0) HO.out rfl
  have o1 := blk_cell (j := 1) HO.out rfl
  have o2 := blk_cell (j := 2) HO.out rfl
  have o3 := blk_cell (j := 3) HO.out rfl
  have o4 := blk_cell (j := 4) HO.out rfl
  have p0 := blk_cell (j := 0) HP.out rfl
  have p1 := blk_cell (j := 1) HP.out rfl
  have p2 := blk_cell (j := 2) HP.out rfl
  conv => arg 2; whnf
  cases hl : lieB o with
  | false =>
    have he : ev = 1 := HLE.out.2 hl
    have HL : Hid (lieB o = false) := hl
    subst he
    clear hl
    go_wp2_with fail
    go_quiet (fail)
    have hbq : Below wc.heap.size wc (wc.drewN nq) := below_drewN (Below.refl _ _) _
    have HBq : Hid (Both w (wc.drewN nq) v n i) := HB.out.below hbq
    have HOq : Hid (OBox (wc.drewN nq) x o) := HO.out.below hbq
    generalize wc.drewN nq = wq at HBq HOq ⊢
    clear hbq o0 o1 o2 o3 o4 p0 p1 p2
    have o0 := blk_cell (j := 0) HOq.out rfl
    have o1 := blk_cell (j := 1) HOq.out rfl
    have o2 := blk_cell (j := 2) HOq.out rfl
    have o3 := blk_cell (j := 3) HOq.out rfl
    have o4 := blk_cell (j := 4) HOq.out rfl
    go_wp2_with fail
    refine (inTake_no w.heap.size o wq HL.out).mono ?_
    rintro e w1 ⟨rfl, hb1⟩
    have HB1 : Hid (Both w w1 v n i) := HBq.out.below hb1
    clear hb1
    go_wp2_with fail
    refine (bare_yes _ 1 _ (HG.out.below HB1.out.bel) (Or.inr (Or.inl ⟨rfl, rfl⟩))).mono ?_
    rintro e w2 ⟨rfl, hb2⟩
    have HB2 : Hid (Both w w2 v n i) := HB1.out.below hb2
    clear hb2 o0 o1 o2 o3 o4
    go_wp2_with fail
    exact HQ.out _ _ _ _ _ _ _ _ _ _ _ _ _ _ _ _ _ _ _ _ _ _ _ _ _ _ _ _ _ _ _ _ _ _ _ _ _ _ _ _ _ _ _ _ _ _ _ _ _ _ _ _ _ _ _ _ _ _ _ _ _ _ _ _ _ _ _ _ _ _ _ _ _ _ _ _ _ _ _ _ _ _ _ _ _ _ _ _ _ _ _ _ _ _ _ _ _ _ _ _ _ _ _ _ _ _ _ _ _ _ _ _ _ _ _ _ _ _ _ _ _ _ _ _ _ _ _ _ _ _ _ _ _ _ _ _ _ _ _ _ _ _ _ _ _ _ _ _ _ _ ⟨v, n, HB2.out.more⟩
  | true =>
    have he : ev = 0 := HLE.out.1 hl
    have HL : Hid (lieB o = true) := hl
    subst he
    obtain ⟨hs, hq, _⟩ := lieB_iff.1 hl
    have hnn := HB.out.ok.nn o.side (plK o) (plP o)
    have hns := HB.out.ok.small o.side (plK o) (plP o)
    have HLO : Hid (lotOf (fun p => n 1 0 p) (fun p => n 2 0 p) (n 1 2 0) (n 2 2 0) o = n o.side (plK o) (plP o)) := lot_is hs
    have hlkq : ∀ nq, (Instr.lookup 28 (.map (some (w.heap.size + 1))) (.agg #[.int .i64 o.side, .int .i64 (plK o), .int .i64 (plP o)]) false).run Tryd.prog (wc.drewN nq) = .ok (.int .i64 (n o.side (plK o) (plP o))) (wc.drewN nq) := fun nq => (HB.out.map.below (below_drewN (Below.refl wc.heap.size wc) nq)).look (plOk_of hl).wf
    by_cases hlt2 : n o.side (plK o) (plP o) < o.qty
    · have hd2 : decide (n o.side (plK o) (plP o) < o.qty) = true := decide_eq_true hlt2
      have HLT : Hid (lotOf (fun p => n 1 0 p) (fun p => n 2 0 p) (n 1 2 0) (n 2 2 0) o < o.qty) := by show lotOf _ _ _ _ o < o.qty; rw [HLO.out]; exact hlt2
      clear hl hs
      go_wp2_with fail
      go_quiet (fail)
      have hbq : Below wc.heap.size wc (wc.drewN nq) := below_drewN (Below.refl _ _) _
      have HBq : Hid (Both w (wc.drewN nq) v n i) := HB.out.below hbq
      have HOq : Hid (OBox (wc.drewN nq) x o) := HO.out.below hbq
      generalize wc.drewN nq = wq at HBq HOq ⊢
      clear hbq o0 o1 o2 o3 o4 p0 p1 p2 hlkq
      have o0 := blk_cell (j := 0) HOq.out rfl
      have o1 := blk_cell (j := 1) HOq.out rfl
      have o2 := blk_cell (j := 2) HOq.out rfl
      have o3 := blk_cell (j := 3) HOq.out rfl
      have o4 := blk_cell (j := 4) HOq.out rfl
      go_wp2_with fail
      refine (inTake_none w.heap.size v _ _ _ _ i o wq HBq.out.ind (by omega) HL.out HLT.out).mono ?_
      rintro e w1 ⟨rfl, hb1⟩
      have HB1 : Hid (Both w w1 v n i) := HBq.out.below hb1
      clear hb1
      go_wp2_with fail
      refine (bare_yes _ 8 _ (HG.out.below HB1.out.bel) (Or.inr (Or.inl ⟨rfl, rfl⟩))).mono ?_
      rintro e w2 ⟨rfl, hb2⟩
      have HB2 : Hid (Both w w2 v n i) := HB1.out.below hb2
      clear hb2 o0 o1 o2 o3 o4
      go_wp2_with fail
      exact HQ.out _ _ _ _ _ _ _ _ _ _ _ _ _ _ _ _ _ _ _ _ _ _ _ _ _ _ _ _ _ _ _ _ _ _ _ _ _ _ _ _ _ _ _ _ _ _ _ _ _ _ _ _ _ _ _ _ _ _ _ _ _ _ _ _ _ _ _ _ _ _ _ _ _ _ _ _ _ _ _ _ _ _ _ _ _ _ _ _ _ _ _ _ _ _ _ _ _ _ _ _ _ _ _ _ _ _ _ _ _ _ _ _ _ _ _ _ _ _ _ _ _ _ _ _ _ _ _ _ _ _ _ _ _ _ _ _ _ _ _ _ _ _ _ _ _ _ _ _ _ _ ⟨v, n, HB2.out.more⟩
    · have hd2 : decide (n o.side (plK o) (plP o) < o.qty) = false := decide_eq_false hlt2
      have HLT : Hid (o.qty ≤ lotOf (fun p => n 1 0 p) (fun p => n 2 0 p) (n 1 2 0) (n 2 2 0) o) := by show o.qty ≤ lotOf _ _ _ _ o; rw [HLO.out]; omega
      go_wp2_with fail
      go_quiet (fail)
      have hbq : Below wc.heap.size wc (wc.drewN nq) := below_drewN (Below.refl _ _) _
      have HBq : Hid (Both w (wc.drewN nq) v n i) := HB.out.below hbq
      have HOq : Hid (OBox (wc.drewN nq) x o) := HO.out.below hbq
      have HPq : Hid (PBox (wc.drewN nq) (x + 1) o) := HP.out.below hbq
      generalize wc.drewN nq = wq at HBq HOq HPq ⊢
      clear hbq o0 o1 o2 o3 o4 p0 p1 p2 hlkq
      have o4 := blk_cell (j := 4) HOq.out rfl
      have p0 := blk_cell (j := 0) HPq.out rfl
      have p1 := blk_cell (j := 1) HPq.out rfl
      have p2 := blk_cell (j := 2) HPq.out rfl
      obtain ⟨v0, st, w1, w3, D, hD, hDM, hlk, hme, hlk1, hes, ho3, hM3, hO3, hP3⟩ := Both.entry HBq.out (by omega) hl (y := n o.side (plK o) (plP o) - o.qty) (by omega) HOq.out HPq.out
      have hlk3 := mapIs.look hM3 (hD.1.put hDM (plOk_of hl).wf (n o.side (plK o) (plP o) - o.qty)) (plOk_of hl).wf
      rw [up3_same] at hlk3
      have HM3 : Hid (mapIs w3 (w.heap.size + 1) (i + 1) (D.put (KL o.side (plK o) (plP o)) (litI (n o.side (plK o) (plP o) - o.qty)))) := hM3
      have HKEY : Hid (keyOf Tryd.prog 34 (plV o.side (plK o) (plP o)) = some (KL o.side (plK o) (plP o))) := keyOf_pl (plOk_of hl).wf
      have HD1 : Hid (n o.side (plK o) (plP o) - o.qty ≠ 0 → LtD (D.put (KL o.side (plK o) (plP o)) (litI (n o.side (plK o) (plP o) - o.qty))) (up3 n o.side (plK o) (plP o) (n o.side (plK o) (plP o) - o.qty))) := fun hy => hD.put hDM (plOk_of hl).wf hy
      have HD0 : Hid (n o.side (plK o) (plP o) - o.qty = 0 → LtD ((D.put (KL o.side (plK o) (plP o)) (litI (n o.side (plK o) (plP o) - o.qty))).del (KL o.side (plK o) (plP o))) (up3 n o.side (plK o) (plP o) (n o.side (plK o) (plP o) - o.qty))) := fun hy => by rw [hy]; exact hD.gone (plOk_of hl).wf 0
      have HO3 : Hid (OBox w3 x o) := hO3
      have HP3 : Hid (PBox w3 (x + 1) o) := hP3
      have HW3 : Hid (Out (fun j => j = w.heap.size + 1) wq w3) := ho3
      have HUP : Hid ((fun p => up3 n o.side (plK o) (plP o) (n o.side (plK o) (plP o) - o.qty) 1 0 p) = addB (fun p => n 1 0 p) o (-o.qty) ∧ (fun p => up3 n o.side (plK o) (plP o) (n o.side (plK o) (plP o) - o.qty) 2 0 p) = addS (fun p => n 2 0 p) o (-o.qty) ∧ up3 n o.side (plK o) (plP o) (n o.side (plK o) (plP o) - o.qty) 1 2 0 = addMb (n 1 2 0) o (-o.qty) ∧ up3 n o.side (plK o) (plP o) (n o.side (plK o) (plP o) - o.qty) 2 2 0 = addMs (n 2 2 0) o (-o.qty)) := up_is hs (by omega)
      have HNK : Hid (NOk (up3 n o.side (plK o) (plP o) (n o.side (plK o) (plP o) - o.qty)) (i + 1)) := HBq.out.ok.take hq.1 (by omega)
      clear hl hD hDM hM3 hO3 hP3 ho3 hs HLO
      generalize n o.side (plK o) (plP o) = nn at hnn hns hlk hlk1 hes hlk3 HM3 HUP HNK HD1 HD0 hlt2 hd2
      go_upto_region 25 with fail
      go_cut [] from 27 to 174 (fun wd => wd = w3)
      case first =>
        go_region
        all_goals go_wp2_with fail
        all_goals go_meet
        all_goals rfl
      case rest =>
        obtain rfl := hcut
        clear hlk hme hlk1 hes o4 p0 p1 p2
        have p0 := blk_cell (j := 0) HP3.out rfl
        have p1 := blk_cell (j := 1) HP3.out rfl
        have p2 := blk_cell (j := 2) HP3.out rfl
        unfold plV at hlk3
        obtain ⟨s1, s2, s3, s4⟩ := HBq.out.small (by omega)
        have HNX : Hid (x ≠ w.heap.size + 1) := fun e => HBq.out.map.ne HOq.out e.symm
        by_cases hy : nn - o.qty = 0
        · have hyb : (nn - o.qty == 0) = true := by rw [hy]; rfl
          have HD00 : Hid (LtD ((D.put (KL o.side (plK o) (plP o)) (litI (nn - o.qty))).del (KL o.side (plK o) (plP o))) (up3 n o.side (plK o) (plP o) (nn - o.qty))) := HD0.out hy
          clear hy HD0 HD1
          go_wp2_with (at_delete; refine wpList_delete_own _ rfl _ _ 28 34 rfl 3 Tryd.keyPl Tryd.underlying28 _ (w.heap.size + 1) (i + 1) _ rfl HM3.out _ _ rfl HKEY.out ?_; intro w5 hown5 hturn5; have ho5 : Out (fun j => j = w.heap.size + 1) wc w5 := Out.of_grown hturn5.grown (fun k hk => by injection hk with hk; exact hk.symm); have hO5 := HO3.out.out ho5 HNX.out; have o0 := blk_cell (j := 0) hO5 rfl; have o1 := blk_cell (j := 1) hO5 rfl; have o2 := blk_cell (j := 2) hO5 rfl; have o3 := blk_cell (j := 3) hO5 rfl; have o4 := blk_cell (j := 4) hO5 rfl)
          have HW5 : Hid (Out (fun j => j = w.heap.size + 1) wq w5) := HW3.out.trans ho5 (Went.refl _ _)
          have HM5 : Hid (LtAt w5 (w.heap.size + 1) (up3 n o.side (plK o) (plP o) (nn - o.qty)) (i + 1)) := ⟨_, hown5, HD00.out⟩
          clear hown5 hturn5 ho5 hO5
          refine (inTake w.heap.size v _ _ _ _ i o w5 (HBq.out.indOut HW5.out) (by omega) HL.out HLT.out s1 s2 s3 s4).mono ?_
          rintro e w6 ⟨rfl, v', hI6, hO6, hW6⟩
          have HB6 : Hid (Both w w6 v' (up3 n o.side (plK o) (plP o) (nn - o.qty)) (i + 1)) := HBq.out.step HW5.out HM5.out HNK.out hI6 hO6 hW6 HUP.out
          clear hI6 hO6 hW6 o0 o1 o2 o3 o4 s1 s2 s3 s4
          go_wp2_with fail
          refine (bare_yes _ 0 _ (HG.out.below HB6.out.bel) (Or.inl ⟨rfl, rfl, rfl⟩)).mono ?_
          rintro e w7 ⟨rfl, hb7⟩
          have HB7 : Hid (Both w w7 v' (up3 n o.side (plK o) (plP o) (nn - o.qty)) (i + 1)) := HB6.out.below hb7
          clear hb7
          go_wp2_with fail
          exact HQ.out _ _ _ _ _ _ _ _ _ _ _ _ _ _ _ _ _ _ _ _ _ _ _ _ _ _ _ _ _ _ _ _ _ _ _ _ _ _ _ _ _ _ _ _ _ _ _ _ _ _ _ _ _ _ _ _ _ _ _ _ _ _ _ _ _ _ _ _ _ _ _ _ _ _ _ _ _ _ _ _ _ _ _ _ _ _ _ _ _ _ _ _ _ _ _ _ _ _ _ _ _ _ _ _ _ _ _ _ _ _ _ _ _ _ _ _ _ _ _ _ _ _ _ _ _ _ _ _ _ _ _ _ _ _ _ _ _ _ _ _ _ _ _ _ _ _ _ _ _ _ ⟨v', _, HB7.out⟩
        · have hyb : (nn - o.qty == 0) = false := beq_eq_false_iff_ne.2 hy
          have HM5 : Hid (LtAt wc (w.heap.size + 1) (up3 n o.side (plK o) (plP o) (nn - o.qty)) (i + 1)) := ⟨_, HM3.out, HD1.out hy⟩
          have o0 := blk_cell (j := 0) HO3.out rfl
          have o1 := blk_cell (j := 1) HO3.out rfl
          have o2 := blk_cell (j := 2) HO3.out rfl
          have o3 := blk_cell (j := 3) HO3.out rfl
          have o4 := blk_cell (j := 4) HO3.out rfl
          clear hy HD0 HD1
          go_wp2_with fail
          refine (inTake w.heap.size v _ _ _ _ i o wc (HBq.out.indOut HW3.out) (by omega) HL.out HLT.out s1 s2 s3 s4).mono ?_
          rintro e w6 ⟨rfl, v', hI6, hO6, hW6⟩
          have HB6 : Hid (Both w w6 v' (up3 n o.side (plK o) (plP o) (nn - o.qty)) (i + 1)) := HBq.out.step HW3.out HM5.out HNK.out hI6 hO6 hW6 HUP.out
          clear hI6 hO6 hW6 o0 o1 o2 o3 o4 s1 s2 s3 s4
          go_wp2_with fail
          refine (bare_yes _ 0 _ (HG.out.below HB6.out.bel) (Or.inl ⟨rfl, rfl, rfl⟩)).mono ?_
          rintro e w7 ⟨rfl, hb7⟩
          have HB7 : Hid (Both w w7 v' (up3 n o.side (plK o) (plP o) (nn - o.qty)) (i + 1)) := HB6.out.below hb7
          clear hb7
          go_wp2_with fail
          exact HQ.out _ _ _ _ _ _ _ _ _ _ _ _ _ _ _ _ _ _ _ _ _ _ _ _ _ _ _ _ _ _ _ _ _ _ _ _ _ _ _ _ _ _ _ _ _ _ _ _ _ _ _ _ _ _ _ _ _ _ _ _ _ _ _ _ _ _ _ _ _ _ _ _ _ _ _ _ _ _ _ _ _ _ _ _ _ _ _ _ _ _ _ _ _ _ _ _ _ _ _ _ _ _ _ _ _ _ _ _ _ _ _ _ _ _ _ _ _ _ _ _ _ _ _ _ _ _ _ _ _ _ _ _ _ _ _ _ _ _ _ _ _ _ _ _ _ _ _ _ _ _ ⟨v', _, HB7.out⟩

set_option maxRecDepth 100000 in
set_option maxHeartbeats 40000000 in
theorem swOther (b off len cap i x : Nat) (more ev t : Int) (o : Ord) (v : Value) (n : Int → Int → Int → Int) (w wc : World) (Q : Exit → Act → World → Prop) (c2 c3 c4 c11 c12 c13 c14 c15 c16 c17 c18 c19 c20 c21 c22 c23 c24 c25 c26 d27 d28 d29 d30 d31 d32 d33 d34 d35 d36 d37 d38 d39 d40 d41 d42 d43 d44 d45 d46 d47 d48 d49 d50 d51 d52 d53 d54 d55 d56 d57 d58 d59 d60 d61 d62 d63 d64 d65 d66 d67 d68 d69 d70 d71 d72 d73 d74 d75 d76 d77 d78 d79 d80 d81 d83 d84 d85 d86 d87 d88 d89 d90 d91 d92 d93 d94 d95 d96 d97 d98 d99 d100 d101 d102 d103 d104 d105 d106 d107 d108 d109 d110 d111 d112 d113 d114 d115 d116 d117 d118 d119 d120 d121 d122 d123 d124 d125 d126 d127 d128 d129 d130 d131 d132 d133 d134 d135 d136 d137 d138 d139 d140 d141 d142 d143 d144 d145 d146 d147 d148 d149 d150 d151 d152 d153 d154 d155 d156 d157 d158 d159 d160 d161 d162 d163 d164 d165 d166 d167 d168 d169 d170 d171 d172 d173 d174 : Value) (_hn : len ≤ 100) (hlt : i < len) (_HG : Hid (ErrT w)) (HB : Hid (Both w wc v n i)) (HO : Hid (OBox wc x o)) (HP : Hid (PBox wc (x + 1) o)) (_HLE : Hid ((lieB o = true → ev = 0) ∧ (lieB o = false → ev = 1))) 
    (g0 : ¬ t = 0) (g1 : ¬ t = 1) (hQ : ∀ (e10 e27 e28 e29 e30 e31 e32 e33 e34 e35 e36 e37 e38 e39 e40 e41 e42 e43 e44 e45 e46 e47 e48 e49 e50 e51 e52 e53 e54 e55 e56 e57 e58 e59 e60 e61 e62 e63 e64 e65 e66 e67 e68 e69 e70 e71 e72 e73 e74 e75 e76 e77 e78 e79 e80 e81 e82 e83 e84 e85 e86 e87 e88 e89 e90 e91 e92 e93 e94 e95 e96 e97 e98 e99 e100 e101 e102 e103 e104 e105 e106 e107 e108 e109 e110 e111 e112 e113 e114 e115 e116 e117 e118 e119 e120 e121 e122 e123 e124 e125 e126 e127 e128 e129 e130 e131 e132 e133 e134 e135 e136 e137 e138 e139 e140 e141 e142 e143 e144 e145 e146 e147 e148 e149 e150 e151 e152 e153 e154 e155 e156 e157 e158 e159 e160 e161 e162 e163 e164 e165 e166 e167 e168 e169 e170 e171 e172 e173 e174 : Value) (wd : World), (∃ (v' : Value) (n' : Int → Int → Int → Int), Both w wd v' n' (i + 1)) → Q .normal ⟨#[.slice (some ⟨b, off, none⟩) len cap, .int .i64 more, c2, c3, c4, .pointer (some ⟨w.heap.size, 0, none⟩), .map (some (w.heap.size + 1)), .int .i64 i, .pointer (some ⟨x, 0, none⟩), .pointer (some ⟨x + 1, 0, none⟩), e10, c11, c12, c13, c14, c15, c16, c17, c18, c19, c20, c21, c22, c23, c24, c25, c26, e27, e28, e29, e30, e31, e32, e33, e34, e35, e36, e37, e38, e39, e40, e41, e42, e43, e44, e45, e46, e47, e48, e49, e50, e51, e52, e53, e54, e55, e56, e57, e58, e59, e60, e61, e62, e63, e64, e65, e66, e67, e68, e69, e70, e71, e72, e73, e74, e75, e76, e77, e78, e79, e80, e81, e82, e83, e84, e85, e86, e87, e88, e89, e90, e91, e92, e93, e94, e95, e96, e97, e98, e99, e100, e101, e102, e103, e104, e105, e106, e107, e108, e109, e110, e111, e112, e113, e114, e115, e116, e117, e118, e119, e120, e121, e122, e123, e124, e125, e126, e127, e128, e129, e130, e131, e132, e133, e134, e135, e136, e137, e138, e139, e140, e141, e142, e143, e144, e145, e146, e147, e148, e149, e150, e151, e152, e153, e154, e155, e156, e157, e158, e159, e160, e161, e162, e163, e164, e165, e166, e167, e168, e169, e170, e171, e172, e173, e174], []⟩ wd) :
    Code.wp Tryd.prog swC Q ⟨#[.slice (some ⟨b, off, none⟩) len cap, .int .i64 more, c2, c3, c4, .pointer (some ⟨w.heap.size, 0, none⟩), .map (some (w.heap.size + 1)), .int .i64 i, .pointer (some ⟨x, 0, none⟩), .pointer (some ⟨x + 1, 0, none⟩), .int .i64 ev, c11, c12, c13, c14, c15, c16, c17, c18, c19, c20, c21, c22, c23, c24, c25, c26, d27, d28, d29, d30, d31, d32, d33, d34, d35, d36, d37, d38, d39, d40, d41, d42, d43, d44, d45, d46, d47, d48, d49, d50, d51, d52, d53, d54, d55, d56, d57, d58, d59, d60, d61, d62, d63, d64, d65, d66, d67, d68, d69, d70, d71, d72, d73, d74, d75, d76, d77, d78, d79, d80, d81, .int .i64 t, d83, d84, d85, d86, d87, d88, d89, d90, d91, d92, d93, d94, d95, d96, d97, d98, d99, d100, d101, d102, d103, d104, d105, d106, d107, d108, d109, d110, d111, d112, d113, d114, d115, d116, d117, d118, d119, d120, d121, d122, d123, d124, d125, d126, d127, d128, d129, d130, d131, d132, d133, d134, d135, d136, d137, d138, d139, d140, d141, d142, d143, d144, d145, d146, d147, d148, d149, d150, d151, d152, d153, d154, d155, d156, d157, d158, d159, d160, d161, d162, d163, d164, d165, d166, d167, d168, d169, d170, d171, d172, d173, d174], []⟩ wc := by
  have HQ : Hid (∀ (e10 e27 e28 e29 e30 e31 e32 e33 e34 e35 e36 e37 e38 e39 e40 e41 e42 e43 e44 e45 e46 e47 e48 e49 e50 e51 e52 e53 e54 e55 e56 e57 e58 e59 e60 e61 e62 e63 e64 e65 e66 e67 e68 e69 e70 e71 e72 e73 e74 e75 e76 e77 e78 e79 e80 e81 e82 e83 e84 e85 e86 e87 e88 e89 e90 e91 e92 e93 e94 e95 e96 e97 e98 e99 e100 e101 e102 e103 e104 e105 e106 e107 e108 e109 e110 e111 e112 e113 e114 e115 e116 e117 e118 e119 e120 e121 e122 e123 e124 e125 e126 e127 e128 e129 e130 e131 e132 e133 e134 e135 e136 e137 e138 e139 e140 e141 e142 e143 e144 e145 e146 e147 e148 e149 e150 e151 e152 e153 e154 e155 e156 e157 e158 e159 e160 e161 e162 e163 e164 e165 e166 e167 e168 e169 e170 e171 e172 e173 e174 : Value) (wd : World), (∃ (v' : Value) (n' : Int → Int → Int → Int), Both w wd v' n' (i + 1)) → Q .normal ⟨#[.slice (some ⟨b, off, none⟩) len cap, .int .i64 more, c2, c3, c4, .pointer (some ⟨w.heap.size, 0, none⟩), .map (some (w.heap.size + 1)), .int .i64 i, .pointer (some ⟨x, 0, none⟩), .pointer (some ⟨x + 1, 0, none⟩), e10, c11, c12, c13, c14, c15, c16, c17, c18, c19, c20, c21, c22, c23, c24, c25, c26, e27, e28, e29, e30, e31, e32, e33, e34, e35, e36, e37, e38, e39, e40, e41, e42, e43, e44, e45, e46, e47, e48, e49, e50, e51, e52, e53, e54, e55, e56, e57, e58, e59, e60, e61, e62, e63, e64, e65, e66, e67, e68, e69, e70, e71, e72, e73, e74, e75, e76, e77, e78, e79, e80, e81, e82, e83, e84, e85, e86, e87, e88, e89, e90, e91, e92, e93, e94, e95, e96, e97, e98, e99, e100, e101, e102, e103, e104, e105, e106, e107, e108, e109, e110, e111, e112, e113, e114, e115, e116, e117, e118, e119, e120, e121, e122, e123, e124, e125, e126, e127, e128, e129, e130, e131, e132, e133, e134, e135, e136, e137, e138, e139, e140, e141, e142, e143, e144, e145, e146, e147, e148, e149, e150, e151, e152, e153, e154, e155, e156, e157, e158, e159, e160, e161, e162, e163, e164, e165, e166, e167, e168, e169, e170, e171, e172, e173, e174], []⟩ wd) := hQ
  clear hQ
  have q0 : (0 : Int) ≤ (i : Int) := by omega
  have q1 : (i : Int) < (len : Int) := by omega
  have o0 := blk_cell (j := 0) HO.out rfl
  have o1 := blk_cell (j := 1) HO.out rfl
  have o2 := blk_cell (j := 2) HO.out rfl
  have o3 := blk_cell (j := 3) HO.out rfl
  have o4 := blk_cell (j := 4) HO.out rfl
  have p0 := blk_cell (j := 0) HP.out rfl
  have p1 := blk_cell (j := 1) HP.out rfl
  have p2 := blk_cell (j := 2) HP.out rfl
  conv => arg 2; whnf
  have gb1 : (t == 1) = false := beq_eq_false_iff_ne.2 g1
  have gb0 : (t == 0) = false := beq_eq_false_iff_ne.2 g0
  clear o0 o1 o2 o3 o4 p0 p1 p2
  go_wp2_with fail
  exact HQ.out _ _ _ _ _ _ _ _ _ _ _ _ _ _ _ _ _ _ _ _ _ _ _ _ _ _ _ _ _ _ _ _ _ _ _ _ _ _ _ _ _ _ _ _ _ _ _ _ _ _ _ _ _ _ _ _ _ _ _ _ _ _ _ _ _ _ _ _ _ _ _ _ _ _ _ _ _ _ _ _ _ _ _ _ _ _ _ _ _ _ _ _ _ _ _ _ _ _ _ _ _ _ _ _ _ _ _ _ _ _ _ _ _ _ _ _ _ _ _ _ _ _ _ _ _ _ _ _ _ _ _ _ _ _ _ _ _ _ _ _ _ _ _ _ _ _ _ _ _ _ ⟨v, n, HB.out.more⟩

set_option maxRecDepth 100000 in
theorem sw (b off len cap i x : Nat) (more ev t : Int) (o : Ord) (v : Value) (n : Int → Int → Int → Int) (w wc : World) (Q : Exit → Act → World → Prop) (c2 c3 c4 c11 c12 c13 c14 c15 c16 c17 c18 c19 c20 c21 c22 c23 c24 c25 c26 d27 d28 d29 d30 d31 d32 d33 d34 d35 d36 d37 d38 d39 d40 d41 d42 d43 d44 d45 d46 d47 d48 d49 d50 d51 d52 d53 d54 d55 d56 d57 d58 d59 d60 d61 d62 d63 d64 d65 d66 d67 d68 d69 d70 d71 d72 d73 d74 d75 d76 d77 d78 d79 d80 d81 d83 d84 d85 d86 d87 d88 d89 d90 d91 d92 d93 d94 d95 d96 d97 d98 d99 d100 d101 d102 d103 d104 d105 d106 d107 d108 d109 d110 d111 d112 d113 d114 d115 d116 d117 d118 d119 d120 d121 d122 d123 d124 d125 d126 d127 d128 d129 d130 d131 d132 d133 d134 d135 d136 d137 d138 d139 d140 d141 d142 d143 d144 d145 d146 d147 d148 d149 d150 d151 d152 d153 d154 d155 d156 d157 d158 d159 d160 d161 d162 d163 d164 d165 d166 d167 d168 d169 d170 d171 d172 d173 d174 : Value) (hn : len ≤ 100) (hlt : i < len) (HG : Hid (ErrT w)) (HB : Hid (Both w wc v n i)) (HO : Hid (OBox wc x o)) (HP : Hid (PBox wc (x + 1) o)) (HLE : Hid ((lieB o = true → ev = 0) ∧ (lieB o = false → ev = 1)))
    (hQ : ∀ (e10 e27 e28 e29 e30 e31 e32 e33 e34 e35 e36 e37 e38 e39 e40 e41 e42 e43 e44 e45 e46 e47 e48 e49 e50 e51 e52 e53 e54 e55 e56 e57 e58 e59 e60 e61 e62 e63 e64 e65 e66 e67 e68 e69 e70 e71 e72 e73 e74 e75 e76 e77 e78 e79 e80 e81 e82 e83 e84 e85 e86 e87 e88 e89 e90 e91 e92 e93 e94 e95 e96 e97 e98 e99 e100 e101 e102 e103 e104 e105 e106 e107 e108 e109 e110 e111 e112 e113 e114 e115 e116 e117 e118 e119 e120 e121 e122 e123 e124 e125 e126 e127 e128 e129 e130 e131 e132 e133 e134 e135 e136 e137 e138 e139 e140 e141 e142 e143 e144 e145 e146 e147 e148 e149 e150 e151 e152 e153 e154 e155 e156 e157 e158 e159 e160 e161 e162 e163 e164 e165 e166 e167 e168 e169 e170 e171 e172 e173 e174 : Value) (wd : World), (∃ (v' : Value) (n' : Int → Int → Int → Int), Both w wd v' n' (i + 1)) → Q .normal ⟨#[.slice (some ⟨b, off, none⟩) len cap, .int .i64 more, c2, c3, c4, .pointer (some ⟨w.heap.size, 0, none⟩), .map (some (w.heap.size + 1)), .int .i64 i, .pointer (some ⟨x, 0, none⟩), .pointer (some ⟨x + 1, 0, none⟩), e10, c11, c12, c13, c14, c15, c16, c17, c18, c19, c20, c21, c22, c23, c24, c25, c26, e27, e28, e29, e30, e31, e32, e33, e34, e35, e36, e37, e38, e39, e40, e41, e42, e43, e44, e45, e46, e47, e48, e49, e50, e51, e52, e53, e54, e55, e56, e57, e58, e59, e60, e61, e62, e63, e64, e65, e66, e67, e68, e69, e70, e71, e72, e73, e74, e75, e76, e77, e78, e79, e80, e81, e82, e83, e84, e85, e86, e87, e88, e89, e90, e91, e92, e93, e94, e95, e96, e97, e98, e99, e100, e101, e102, e103, e104, e105, e106, e107, e108, e109, e110, e111, e112, e113, e114, e115, e116, e117, e118, e119, e120, e121, e122, e123, e124, e125, e126, e127, e128, e129, e130, e131, e132, e133, e134, e135, e136, e137, e138, e139, e140, e141, e142, e143, e144, e145, e146, e147, e148, e149, e150, e151, e152, e153, e154, e155, e156, e157, e158, e159, e160, e161, e162, e163, e164, e165, e166, e167, e168, e169, e170, e171, e172, e173, e174], []⟩ wd) :
    Code.wp Tryd.prog swC Q ⟨#[.slice (some ⟨b, off, none⟩) len cap, .int .i64 more, c2, c3, c4, .pointer (some ⟨w.heap.size, 0, none⟩), .map (some (w.heap.size + 1)), .int .i64 i, .pointer (some ⟨x, 0, none⟩), .pointer (some ⟨x + 1, 0, none⟩), .int .i64 ev, c11, c12, c13, c14, c15, c16, c17, c18, c19, c20, c21, c22, c23, c24, c25, c26, d27, d28, d29, d30, d31, d32, d33, d34, d35, d36, d37, d38, d39, d40, d41, d42, d43, d44, d45, d46, d47, d48, d49, d50, d51, d52, d53, d54, d55, d56, d57, d58, d59, d60, d61, d62, d63, d64, d65, d66, d67, d68, d69, d70, d71, d72, d73, d74, d75, d76, d77, d78, d79, d80, d81, .int .i64 t, d83, d84, d85, d86, d87, d88, d89, d90, d91, d92, d93, d94, d95, d96, d97, d98, d99, d100, d101, d102, d103, d104, d105, d106, d107, d108, d109, d110, d111, d112, d113, d114, d115, d116, d117, d118, d119, d120, d121, d122, d123, d124, d125, d126, d127, d128, d129, d130, d131, d132, d133, d134, d135, d136, d137, d138, d139, d140, d141, d142, d143, d144, d145, d146, d147, d148, d149, d150, d151, d152, d153, d154, d155, d156, d157, d158, d159, d160, d161, d162, d163, d164, d165, d166, d167, d168, d169, d170, d171, d172, d173, d174], []⟩ wc := by
  by_cases g0 : t = 0
  · subst g0
    exact swAdd b off len cap i x more ev o v n w wc Q c2 c3 c4 c11 c12 c13 c14 c15 c16 c17 c18 c19 c20 c21 c22 c23 c24 c25 c26 d27 d28 d29 d30 d31 d32 d33 d34 d35 d36 d37 d38 d39 d40 d41 d42 d43 d44 d45 d46 d47 d48 d49 d50 d51 d52 d53 d54 d55 d56 d57 d58 d59 d60 d61 d62 d63 d64 d65 d66 d67 d68 d69 d70 d71 d72 d73 d74 d75 d76 d77 d78 d79 d80 d81 d83 d84 d85 d86 d87 d88 d89 d90 d91 d92 d93 d94 d95 d96 d97 d98 d99 d100 d101 d102 d103 d104 d105 d106 d107 d108 d109 d110 d111 d112 d113 d114 d115 d116 d117 d118 d119 d120 d121 d122 d123 d124 d125 d126 d127 d128 d129 d130 d131 d132 d133 d134 d135 d136 d137 d138 d139 d140 d141 d142 d143 d144 d145 d146 d147 d148 d149 d150 d151 d152 d153 d154 d155 d156 d157 d158 d159 d160 d161 d162 d163 d164 d165 d166 d167 d168 d169 d170 d171 d172 d173 d174 hn hlt HG HB HO HP HLE hQ
  · by_cases g1 : t = 1
    · subst g1
      exact swTake b off len cap i x more ev o v n w wc Q c2 c3 c4 c11 c12 c13 c14 c15 c16 c17 c18 c19 c20 c21 c22 c23 c24 c25 c26 d27 d28 d29 d30 d31 d32 d33 d34 d35 d36 d37 d38 d39 d40 d41 d42 d43 d44 d45 d46 d47 d48 d49 d50 d51 d52 d53 d54 d55 d56 d57 d58 d59 d60 d61 d62 d63 d64 d65 d66 d67 d68 d69 d70 d71 d72 d73 d74 d75 d76 d77 d78 d79 d80 d81 d83 d84 d85 d86 d87 d88 d89 d90 d91 d92 d93 d94 d95 d96 d97 d98 d99 d100 d101 d102 d103 d104 d105 d106 d107 d108 d109 d110 d111 d112 d113 d114 d115 d116 d117 d118 d119 d120 d121 d122 d123 d124 d125 d126 d127 d128 d129 d130 d131 d132 d133 d134 d135 d136 d137 d138 d139 d140 d141 d142 d143 d144 d145 d146 d147 d148 d149 d150 d151 d152 d153 d154 d155 d156 d157 d158 d159 d160 d161 d162 d163 d164 d165 d166 d167 d168 d169 d170 d171 d172 d173 d174 hn hlt HG HB HO HP HLE hQ
    · exact swOther b off len cap i x more ev t o v n w wc Q c2 c3 c4 c11 c12 c13 c14 c15 c16 c17 c18 c19 c20 c21 c22 c23 c24 c25 c26 d27 d28 d29 d30 d31 d32 d33 d34 d35 d36 d37 d38 d39 d40 d41 d42 d43 d44 d45 d46 d47 d48 d49 d50 d51 d52 d53 d54 d55 d56 d57 d58 d59 d60 d61 d62 d63 d64 d65 d66 d67 d68 d69 d70 d71 d72 d73 d74 d75 d76 d77 d78 d79 d80 d81 d83 d84 d85 d86 d87 d88 d89 d90 d91 d92 d93 d94 d95 d96 d97 d98 d99 d100 d101 d102 d103 d104 d105 d106 d107 d108 d109 d110 d111 d112 d113 d114 d115 d116 d117 d118 d119 d120 d121 d122 d123 d124 d125 d126 d127 d128 d129 d130 d131 d132 d133 d134 d135 d136 d137 d138 d139 d140 d141 d142 d143 d144 d145 d146 d147 d148 d149 d150 d151 d152 d153 d154 d155 d156 d157 d158 d159 d160 d161 d162 d163 d164 d165 d166 d167 d168 d169 d170 d171 d172 d173 d174 hn hlt HG HB HO HP HLE g0 g1 hQ
end Go.Proofs.YtkfmljokenclaabDoor
