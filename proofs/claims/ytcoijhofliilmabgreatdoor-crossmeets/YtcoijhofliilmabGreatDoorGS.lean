/-
  The law CrossMeets, walked: both books of one list, an order that meets those of both. Conditions stand in each theorem.
-/
import Derived.Test.YtcoijhofliilmabGreatDoorGM
import Derived.Test.YtcoijhofliilmabGreatDoorGP
import Derived.Test.YtcoijhofliilmabGreatDoorGR
import Derived.Deep.DeepCutAuto
import Derived.Deep.CutRange
import Derived.Test.YtcoijhofliilmabGreatDoorRows
import Derived.ProofKit
import Derived.OpenShut
import Derived.Deep.Fields
import Derived.Test.YtcoijhofliilmabGreatDoorGL
import Derived.LaidLaws
import Derived.LaidHandle
namespace Go.Proofs.YtcoijhofliilmabGreatDoor
open Go.RowKit

theorem row_int {w : World} {base : Nat} {v : Value} {l : List Int} (h : w.ownsRow base 3 1 v l.length (intV l)) {k : Nat} (hk : k < l.length) :
    ∃ g cap, v = .slice (some ⟨g, 0, none⟩) l.length cap ∧ w.cell? ⟨g, k, none⟩ = some (.int .i64 (l.getD k 0)) := by
  obtain ⟨g, cap, rfl, _, _⟩ := h.form (by omega)
  exact ⟨g, cap, rfl, (h.cellAt _ (by omega)).trans (intV_at hk)⟩
theorem meet_len (al : Int → Bool) (o : Ord) : ∀ (X : List Ord) (s : MS), (meet al o X s).1.fs.length ≤ s.fs.length + X.length ∧ (meet al o X s).1.ts.length ≤ s.ts.length + X.length
  | [], s => ⟨Nat.le_refl _, Nat.le_refl _⟩
  | x :: T, s => by
    have stay : s.fs.length ≤ s.fs.length + (x :: T).length ∧ s.ts.length ≤ s.ts.length + (x :: T).length := ⟨Nat.le_add_right _ _, Nat.le_add_right _ _⟩
    unfold meet
    split
    · exact stay
    · split
      · have := meet_len al o T s
        rw [List.length_cons]; omega
      · split
        · exact stay
        · split
          · have h := meet_len al o T (mstep o x s)
            have e1 : (mstep o x s).fs.length = s.fs.length + 1 := by show (s.fs ++ [_]).length = _; rw [List.length_append]; rfl
            have e2 : (mstep o x s).ts.length = s.ts.length + 1 := by show (s.ts ++ [_]).length = _; rw [List.length_append]; rfl
            rw [List.length_cons]; omega
          · exact stay
section
variable {w0 w w' : World} {bb rb m m' : Nat} {b b' : BkS} {v v' : Value} {L L' : List Ord} {S : Nat → Prop}
/-- the document's book changed, and blocks besides that are none of the program's -/
theorem Pair.doc2 (h : Pair w0 w bb rb m b v L) (ho : Out S w w') (h1 : ∀ j, S j → ¬ b.foot bb j) (h2 : ∀ j, S j → w0.heap.size ≤ j) (hr : BookIs w' w0.heap.size rb v' L') : Pair w0 w' bb rb m b v' L' :=
  ⟨⟨h.my.bk.out ho (fun k hk e => h1 k e hk), bel_of_out ho h2 h.my.bel, h.my.mine⟩, hr, h.err, h.base⟩
/-- the program's book changed, and blocks besides that are none of the document's -/
theorem Pair.prog2 (h : Pair w0 w bb rb m b v L) (ho : Out (fun j => b.foot bb j ∨ S j) w w') (h1 : ¬ S rb) (h3 : ∀ j, v.ownBlock = some j → ¬ S j) (h2 : ∀ j, S j → w0.heap.size ≤ j) (hk : Bk w' bb m' b') (hw : Went w (b.foot bb) (b'.foot bb)) : Pair w0 w' bb rb m' b' v L :=
  ⟨⟨hk, bel_of_out ho (fun k hk => hk.elim (h.my.mine k) (h2 k)) h.my.bel, fun k hk => (hw k hk).elim (h.my.mine k) (fun e => Nat.le_trans h.my.bel.size e)⟩,
   cr_book h.ref ho (fun e => e.elim h.notRb h1) (fun k hk e => e.elim (h.my.bk.farRow h.ref.all k hk) (h3 k hk)), h.err, h.base⟩
end

set_option maxRecDepth 4000 in
set_option maxHeartbeats 2000000 in
theorem meets_walk (a : Option Addr) (cap : Nat) (l : List Ord) (o : Ord) (low high : Int) (w : World) (h : LdIn w a l) (hl : l.length ≤ 100) (hE : ErrT w) (hid : ∀ o ∈ l, (Lit.int .i64 o.id).wf = true) (hs : o.side = 1 ∨ o.side = 2) (hqb : -9223372036854775808 ≤ o.qty ∧ o.qty ≤ 9223372036854775807) :
    Calls Tryz.prog 4 #[.slice a l.length cap, .agg #[.int .i64 o.id, .int .i64 o.side, .int .i64 o.kind, .int .i64 o.price, .int .i64 o.qty], .int .i64 low, .int .i64 high] w fun e w' => e = .returned (.bool true) ∧ Below w.heap.size w w' := by
  have HA : Hid (LdIn w a l) := h
  have HE : Hid (ErrT w) := hE
  have HI : Hid (∀ o ∈ l, (Lit.int .i64 o.id).wf = true) := hid
  have HS : Hid (o.side = 1 ∨ o.side = 2) := hs
  have k1 : decide ((l.length : Int) > 100) = false := decide_eq_false (by omega)
  clear h hE hid hs
  go_enter Tryz.func4, Tryz.ntmps4
  go_upto_region 1 with fail
  have hb1 := bel1 w (.cells #[.int .i64 o.id, .int .i64 o.side, .int .i64 o.kind, .int .i64 o.price, .int .i64 o.qty] 40)
  have ho1 := heap_alloc_new w (.cells #[.int .i64 o.id, .int .i64 o.side, .int .i64 o.kind, .int .i64 o.price, .int .i64 o.qty] 40)
  have hz1 : (w.alloc (.cells #[.int .i64 o.id, .int .i64 o.side, .int .i64 o.kind, .int .i64 o.price, .int .i64 o.qty] 40)).heap.size = w.heap.size + 1 := by simp
  generalize w.alloc (.cells #[.int .i64 o.id, .int .i64 o.side, .int .i64 o.kind, .int .i64 o.price, .int .i64 o.qty] 40) = wa at hb1 ho1 hz1 ⊢
  have hb2 := bel2 wa (.cells #[.int .i64 low] 3) (.cells #[.int .i64 high] 3)
  have hlo := two_old wa (.cells #[.int .i64 low] 3) (.cells #[.int .i64 high] 3)
  have hhi := two_new wa (.cells #[.int .i64 low] 3) (.cells #[.int .i64 high] 3)
  have hz2 : ((wa.alloc (.cells #[.int .i64 low] 3)).alloc (.cells #[.int .i64 high] 3)).heap.size = wa.heap.size + 2 := by simp
  generalize (wa.alloc (.cells #[.int .i64 low] 3)).alloc (.cells #[.int .i64 high] 3) = w1 at hb2 hlo hhi hz2 ⊢
  rw [hz1] at hlo hhi hz2
  try rw [hz1]
  have HB1 : Hid (Below w.heap.size w w1) := bel_then hb1 hb2
  have hO1 := blk_below ho1 hb2 (Nat.le_refl _)
  have HO1 : Hid (OrdAt w1 w.heap.size o) := hO1
  have HLO : Hid _ := hlo
  have HHI : Hid _ := hhi
  have o1 := blk_cell (j := 1) hO1 rfl
  have HZ2 : Hid (w1.heap.size = w.heap.size + 1 + 2) := hz2
  clear hb1 ho1 hb2 hlo hhi hO1 hz1 hz2
  go_cut [35] (fun u35 wc => u35 = .bool false ∧ wc = w1)
  case first =>
    rcases HS.out with e | e
    · have e1 : (o.side != 1) = false := by rw [e]; rfl
      go_wp2_with fail
      go_meet
      exact ⟨rfl, rfl⟩
    · have e1 : (o.side != 1) = true := by rw [e]; rfl
      have e2 : (o.side != 2) = false := by rw [e]; rfl
      go_wp2_with fail
      go_meet
      exact ⟨rfl, rfl⟩
  case rest =>
    obtain ⟨rfl, hwc⟩ := hcut
    subst hwc
    clear o1 k1
    go_wp2_with fail
    refine (crLaid a cap l wc (HA.out.below HB1.out) hl (HE.out.below HB1.out) HI.out).mono ?_
    rintro e w2 ⟨rb, m, b, v, rfl, hm, hP, hK⟩
    have HP : Hid (Pair wc w2 (wc.heap.size + 2) rb m b v (laidL l)) := hP
    have HK : Hid (Lnk b.S (laidL l)) := hK
    have HO : Hid (LOk (laidL l)) := lok_of hP.my.bk hK
    have hL : (laidL l).length ≤ 100 := lnk_few hP.my.bk.ok hK
    have hO2 := blk_below HO1.out hP.my.bel (Nat.le_refl _)
    have o0 := blk_cell (j := 0) hO2 rfl
    generalize laidL l = L at *
    clear hP hK HA HI HE hO2
    go_wp2_with fail
    refine (doc_order HP.out hL o.id).mono ?_
    rintro e w3 ⟨rfl, hb3⟩
    unfold Ord.agg
    obtain ⟨q, hq⟩ : ∃ q, canO o.id L = q := ⟨_, rfl⟩
    rw [hq]
    obtain ⟨cn, hcn⟩ : ∃ cn, canN o.id L = cn := ⟨_, rfl⟩
    rw [hcn]
    have HP3 : Hid _ := HP.out.below hb3
    clear hb3 HP o0 hq hcn
    go_upto_region 7 with fail
    have hb4 := bel1 w3 (.cells #[.int .i64 q.id, .int .i64 q.side, .int .i64 q.kind, .int .i64 q.price, .int .i64 q.qty] 40)
    generalize w3.alloc (.cells #[.int .i64 q.id, .int .i64 q.side, .int .i64 q.kind, .int .i64 q.price, .int .i64 q.qty] 40) = w4 at hb4 ⊢
    have HP4 : Hid _ := HP3.out.below hb4
    clear hb4 HP3
    by_cases hc : cn = 0
    · have hcb : (cn == 0) = true := beq_iff_eq.2 hc
      clear hc
      go_wp2_with fail
      go_ret
      exact ⟨rfl, bel_then HB1.out HP4.out.my.bel⟩
    · have hcb : (cn == 0) = false := beq_eq_false_iff_ne.2 hc
      clear hc
      go_upto_region 10 with fail
      have hb5 := bel2 w4 (.cells #[.slice none 0 0] 43) (.cells #[.slice none 0 0] 43)
      have hto := two_old w4 (.cells #[.slice none 0 0] 43) (.cells #[.slice none 0 0] 43)
      have hte := two_new w4 (.cells #[.slice none 0 0] 43) (.cells #[.slice none 0 0] 43)
      generalize (w4.alloc (.cells #[.slice none 0 0] 43)).alloc (.cells #[.slice none 0 0] 43) = w5 at hb5 hto hte ⊢
      have HP5 : Hid _ := HP4.out.below hb5
      have h45 : wc.heap.size ≤ w4.heap.size := HP4.out.my.bel.size
      generalize w4.heap.size = tb at *
      have HTO : Hid (w5.heap[tb]? = some (.cells #[.slice none 0 0] 43 (0, 0))) := hto
      have HTE : Hid (w5.heap[tb + 1]? = some (.cells #[.slice none 0 0] 43 (0, 0))) := hte
      have HLO5 : Hid _ := blk_below HLO.out HP5.out.my.bel (Nat.le_refl _)
      have HHI5 : Hid _ := blk_below HHI.out HP5.out.my.bel (Nat.le_refl _)
      have hO5 : OrdAt w5 w.heap.size o := blk_below HO1.out HP5.out.my.bel (Nat.le_refl _)
      have HO5 : Hid (OrdAt w5 w.heap.size o) := hO5
      have o0 := blk_cell (j := 0) hO5 rfl
      have o1 := blk_cell (j := 1) hO5 rfl
      have o2 := blk_cell (j := 2) hO5 rfl
      have o3 := blk_cell (j := 3) hO5 rfl
      have o4 := blk_cell (j := 4) hO5 rfl
      have lte : tb + 1 < w5.heap.size := lt_of_block hte
      clear hb5 hto hte hO5 HP4
      go_wp2_with fail
      have HAP : Hid (∀ j, j = tb + 1 → ¬ b.foot (wc.heap.size + 2) j) := fun j e => by subst e; exact HP5.out.my.bk.farBox HTE.out (by decide) (by decide) (by decide) (by decide) (by decide)
      have hrbase := HP5.out.base
      refine (bkMeets wc.heap.size rb v L o 12 14 #[.pointer (some ⟨w.heap.size + 1, 0, none⟩), .pointer (some ⟨w.heap.size + 1 + 1, 0, none⟩)] #[.pointer (some ⟨tb + 1, 0, none⟩)] (alB low high) (Told (tb + 1) w5.heap.size) (fun j => j = tb + 1) w5 HP5.out.ref HP5.out.my.bel.size hL HO.out HS.out hqb (askFn1 low high _ _ _ w5 HLO5.out HHI5.out (fun e => by have hz := HZ2.out; rcases e with e | e <;> omega) (fun e => by have hz := HZ2.out; rcases e with e | e <;> omega)) (toldFn2 (tb + 1) w5.heap.size) (Told.start HTE.out (Nat.le_refl _))).mono ?_
      rintro e w6 hMe
      obtain ⟨s, t, vf, v6, D6, hmeet, rfl, hfil, hbk, hst, hout, hd⟩ := hMe
      have HMT : Hid (meet (alB low high) o (sideO (3 - o.side) L) ⟨[], L, o.qty, []⟩ = (s, t)) := hmeet
      have HP6 : Hid _ := HP5.out.doc2 hout (fun j e => e.elim (fun e => by rw [e]; exact HP5.out.notRb) (HAP.out j)) (fun j e => by have hz := HZ2.out; rcases e with e | e <;> omega) hbk
      have HF6 : Hid _ := hfil
      have HT6 : Hid (Told (tb + 1) w5.heap.size w6 s.ts D6) := hst
      have HD6 : Hid (∀ j, D6 j → j = tb + 1 ∨ w5.heap.size ≤ j) := hd
      have HTO6 : Hid (w6.heap[tb]? = some (.cells #[.slice none 0 0] 43 (0, 0))) := blk_out HTO.out hout (fun e => by rcases e with e | e; exact blk_ne HTO.out HP5.out.ref.box (by decide) e; omega)
      have HO6 : Hid (OrdAt w6 w.heap.size o) := blk_out HO5.out hout (fun e => by have hz := HZ2.out; rcases e with e | e <;> omega)
      have HLO6 : Hid _ := blk_out HLO5.out hout (fun e => by have hz := HZ2.out; rcases e with e | e <;> omega)
      have HHI6 : Hid _ := blk_out HHI5.out hout (fun e => by have hz := HZ2.out; rcases e with e | e <;> omega)
      have HLT5 : Hid (∀ j, b.foot (wc.heap.size + 2) j → j < w5.heap.size) := fun j hj => HP5.out.my.bk.lt hj
      have h56 : w5.heap.size ≤ w6.heap.size := hout.size
      obtain ⟨fa, fc, rfl, _, _⟩ := owns_shape hfil
      clear hmeet hfil hbk hst hout hd HP5 HTO HTE HO5 HLO5 HHI5 o0 o1 o2 o3 o4 HAP
      go_upto_region 12 with fail
      have hb7 := bel1 w6 (.cells #[.int .i64 o.id, .int .i64 o.side, .int .i64 o.kind, .int .i64 o.price, .int .i64 s.q] 40)
      have hl7 := heap_alloc_new w6 (.cells #[.int .i64 o.id, .int .i64 o.side, .int .i64 o.kind, .int .i64 o.price, .int .i64 s.q] 40)
      generalize w6.alloc (.cells #[.int .i64 o.id, .int .i64 o.side, .int .i64 o.kind, .int .i64 o.price, .int .i64 s.q] 40) = w7 at hb7 hl7 ⊢
      have HP7 : Hid _ := HP6.out.below hb7
      have HF7 : Hid _ := owns_below HF6.out hb7 (Nat.le_refl _)
      have HT7 : Hid (Told (tb + 1) w5.heap.size w7 s.ts D6) := HT6.out.keep (Out.of_below (S := fun _ => False) hb7 (Nat.le_refl _)) (fun _ _ e => e)
      have HTO7 : Hid (w7.heap[tb]? = some (.cells #[.slice none 0 0] 43 (0, 0))) := blk_below HTO6.out hb7 (Nat.le_refl _)
      have hO7 : OrdAt w7 w.heap.size o := blk_below HO6.out hb7 (Nat.le_refl _)
      have HLO7 : Hid _ := blk_below HLO6.out hb7 (Nat.le_refl _)
      have HHI7 : Hid _ := blk_below HHI6.out hb7 (Nat.le_refl _)
      have h67 : w6.heap.size ≤ w7.heap.size := hb7.size
      generalize w6.heap.size = xb at *
      have HL7 : Hid (w7.heap[xb]? = some (.cells #[.int .i64 o.id, .int .i64 o.side, .int .i64 o.kind, .int .i64 o.price, .int .i64 s.q] 40 (0, 0))) := hl7
      have o0 := blk_cell (j := 0) hO7 rfl
      have o1 := blk_cell (j := 1) hO7 rfl
      have o2 := blk_cell (j := 2) hO7 rfl
      have o3 := blk_cell (j := 3) hO7 rfl
      have o4 := blk_cell (j := 4) hO7 rfl
      clear hb7 hl7 hO7 HP6 HF6 HT6 HTO6 HO6 HLO6 HHI6
      go_wp2_with fail
      have HAP : Hid (∀ j, j = tb → ¬ b.foot (wc.heap.size + 2) j) := fun j e => by subst e; exact HP7.out.my.bk.farBox HTO7.out (by decide) (by decide) (by decide) (by decide) (by decide)
      have HMI : Hid (∀ j, b.foot (wc.heap.size + 2) j → wc.heap.size ≤ j) := HP7.out.my.mine
      refine (cpMeets (wc.heap.size + 2) m b L o 12 16 #[.pointer (some ⟨w.heap.size + 1, 0, none⟩), .pointer (some ⟨w.heap.size + 1 + 1, 0, none⟩)] #[.pointer (some ⟨tb, 0, none⟩)] (alB low high) (Told tb w7.heap.size) (fun j => j = tb) w7 HP7.out.my.bk (by omega) HK.out HO.out HS.out hqb (askFn1 low high _ _ _ w7 HLO7.out HHI7.out (fun e => by have hz := HZ2.out; rcases e with e | e; have := HMI.out _ e; omega; omega) (fun e => by have hz := HZ2.out; rcases e with e | e; have := HMI.out _ e; omega; omega)) (toldFn3 tb w7.heap.size) (Told.start HTO7.out (Nat.le_refl _)) HAP.out).mono ?_
      rintro e w8 hMp
      obtain ⟨s', t', vg, b8, m8, D8, hmeet, hm8, rfl, hgil, hbk, hlk, hst, hout, hwent, hd⟩ := hMp
      have heq := HMT.out.symm.trans hmeet
      injection heq with hss htt
      subst hss htt
      have nrb : ¬ rb = tb := blk_ne HP7.out.ref.box HTO7.out (by decide)
      have HP8 : Hid _ := HP7.out.prog2 hout nrb (fun j hj e => owns_type HP7.out.ref.all HTO7.out (by decide) (hj.trans (congrArg some e))) (fun j e => by have e' : j = tb := e; omega) hbk hwent
      have HK8 : Hid (Lnk b8.S s.L) := hlk
      have HG8 : Hid _ := hgil
      have HF8 : Hid _ := owns_out HF7.out hout (fun k hk e => e.elim (HP7.out.my.bk.farAny HF7.out (by decide) (by decide) (by decide) (by decide) (by decide) k hk) (fun e => owns_type HF7.out HTO7.out (by decide) (hk.trans (congrArg some e))))
      have HT8 : Hid (Told (tb + 1) w5.heap.size w8 s.ts D6) := HT7.out.keep hout (fun j hj e => by
        obtain ⟨⟨v1, g1, _, _⟩, _⟩ := HT7.out
        rcases HD6.out j hj with ej | ej
        · subst ej
          rcases e with e | e
          · exact HP7.out.my.bk.farBox g1 (by decide) (by decide) (by decide) (by decide) (by decide) e
          · omega
        · rcases e with e | e
          · have := HLT5.out j e; omega
          · omega)
      have HTD : Hid (Told tb w7.heap.size w8 s.ts D8) := hst
      have HL8 : Hid (w8.heap[xb]? = some (.cells #[.int .i64 o.id, .int .i64 o.side, .int .i64 o.kind, .int .i64 o.price, .int .i64 s.q] 40 (0, 0))) := blk_out HL7.out hout (fun e => e.elim (HP7.out.my.bk.farBox HL7.out (by decide) (by decide) (by decide) (by decide) (by decide)) (blk_ne HL7.out HTO7.out (by decide)))
      obtain ⟨ga, gc, rfl, _, _⟩ := owns_shape hgil
      have hml := meet_len (alB low high) o (sideO (3 - o.side) L) ⟨[], L, o.qty, []⟩
      rw [hmeet] at hml
      have hsl : (sideO (3 - o.side) L).length ≤ L.length := sideO_len _ _
      have h0 : ([] : List Fil).length = 0 := rfl
      have h0' : ([] : List Int).length = 0 := rfl
      have HLN : Hid (s.ts.length ≤ 1000000000) := by show s.ts.length ≤ 1000000000; have := hml.2; simp only at this; omega
      have HFN : Hid (s.fs.length ≤ 1000000000) := by show s.fs.length ≤ 1000000000; have := hml.1; simp only at this; omega
      clear hml hsl h0 h0'
      clear hmeet hgil hbk hlk hst hout hwent hd HP7 HF7 HT7 HTO7 HLO7 HHI7 HL7 HAP HMI HD6 HLT5 o0 o1 o2 o3 o4 HMT HK HO
      go_upto_region 13 with fail
      have hb9 := bel1 w8 (.cells #[.int .i64 o.id, .int .i64 o.side, .int .i64 o.kind, .int .i64 o.price, .int .i64 s.q] 40)
      have hr9 := heap_alloc_new w8 (.cells #[.int .i64 o.id, .int .i64 o.side, .int .i64 o.kind, .int .i64 o.price, .int .i64 s.q] 40)
      generalize w8.alloc (.cells #[.int .i64 o.id, .int .i64 o.side, .int .i64 o.kind, .int .i64 o.price, .int .i64 s.q] 40) = w9 at hb9 hr9 ⊢
      have HP9 : Hid _ := HP8.out.below hb9
      have HF9 : Hid _ := owns_below HF8.out hb9 (Nat.le_refl _)
      have HG9 : Hid _ := owns_below HG8.out hb9 (Nat.le_refl _)
      have hl9 := blk_below HL8.out hb9 (Nat.le_refl _)
      obtain ⟨⟨va, ha1, ha2, _⟩, _⟩ := HTD.out
      obtain ⟨⟨vb, hb1, hb2, _⟩, _⟩ := HT8.out
      obtain ⟨aa, ca, rfl, _, _⟩ := owns_shape ha2
      obtain ⟨ab, cb, rfl, _, _⟩ := owns_shape hb2
      have HA9 : Hid _ := And.intro (blk_below ha1 hb9 (Nat.le_refl _)) (owns_below ha2 hb9 (Nat.le_refl _))
      have HB9 : Hid _ := And.intro (blk_below hb1 hb9 (Nat.le_refl _)) (owns_below hb2 hb9 (Nat.le_refl _))
      generalize w8.heap.size = yb at *
      have HR9 : Hid _ := hr9
      have HL9 : Hid _ := hl9
      clear hb9 hr9 hl9 ha1 ha2 hb1 hb2 HP8 HF8 HG8 HL8 HTD HT8
      go_wp2_with fail
      obtain ⟨fa', fc', e1, hf1⟩ := FilsIn.of_row HF9.out
      obtain ⟨ga', gc', e2, hf2⟩ := FilsIn.of_row HG9.out
      injection e1 with e1 _ e3
      injection e2 with e2 _ e4
      subst e1 e2 e3 e4
      refine (cfSame ga fa gc fc s.fs w9 hf2 hf1 HFN.out).mono ?_
      rintro e w10 ⟨rfl, hb10⟩
      have HP10 : Hid _ := HP9.out.below hb10
      have hr10 := blk_below HR9.out hb10 (Nat.le_refl _)
      have hl10 := blk_below HL9.out hb10 (Nat.le_refl _)
      have ha10 := blk_below HA9.out.1 hb10 (Nat.le_refl _)
      have hb10' := blk_below HB9.out.1 hb10 (Nat.le_refl _)
      have r0 := blk_cell (j := 0) hr10 rfl
      have r1 := blk_cell (j := 1) hr10 rfl
      have r2 := blk_cell (j := 2) hr10 rfl
      have r3 := blk_cell (j := 3) hr10 rfl
      have r4 := blk_cell (j := 4) hr10 rfl
      have l0 := blk_cell (j := 0) hl10 rfl
      have l1 := blk_cell (j := 1) hl10 rfl
      have l2 := blk_cell (j := 2) hl10 rfl
      have l3 := blk_cell (j := 3) hl10 rfl
      have l4 := blk_cell (j := 4) hl10 rfl
      have ta := blk_cell (j := 0) ha10 rfl
      have tc := blk_cell (j := 0) hb10' rfl
      have HA10 : Hid _ := And.intro ha10 (owns_below HA9.out.2 hb10 (Nat.le_refl _))
      have HB10 : Hid _ := And.intro hb10' (owns_below HB9.out.2 hb10 (Nat.le_refl _))
      clear hf1 hf2 hb10 hr10 hl10 ha10 hb10' HP9 HF9 HG9 HR9 HL9 HA9 HB9
      go_wp2_with fail
      refine (same_yes _ rb _ _ b8 v6 s.L _ HP10.out.my.bk HP10.out.ref HK8.out HP10.out.errT).mono ?_
      rintro e w11 ⟨rfl, hb11⟩
      have HP11 : Hid _ := HP10.out.below hb11
      have HA11 : Hid _ := And.intro (blk_below HA10.out.1 hb11 (Nat.le_refl _)) (owns_below HA10.out.2 hb11 (Nat.le_refl _))
      have HB11 : Hid _ := And.intro (blk_below HB10.out.1 hb11 (Nat.le_refl _)) (owns_below HB10.out.2 hb11 (Nat.le_refl _))
      clear hb11 r0 r1 r2 r3 r4 l0 l1 l2 l3 l4 ta tc HA10 HB10 HP10
      go_wp2_with fail
      generalize s.ts = ts at *
      go_loopw [22] (fun u22 wr => ∃ k : Nat, k ≤ ts.length ∧ u22 = .int .i64 k ∧ Below w11.heap.size w11 wr) (fun u22 _ => ts.length - (intOf u22).toNat)
      case atStart => exact ⟨0, Nat.zero_le _, rfl, Below.refl _ _⟩
      case round =>
        obtain ⟨k, hk, rfl, hbr⟩ := hrel
        have HBR : Hid (Below w11.heap.size w11 wr) := hbr
        have ta := blk_cell (j := 0) (blk_below HA11.out.1 hbr (Nat.le_refl _)) rfl
        have tc := blk_cell (j := 0) (blk_below HB11.out.1 hbr (Nat.le_refl _)) rfl
        have hln := HLN.out
        by_cases hk1 : k < ts.length
        · have hlt : (k : Int) < (ts.length : Int) := by omega
          obtain ⟨g1, c1, e1, i1⟩ := row_int (owns_below HA11.out.2 hbr (Nat.le_refl _)) hk1
          obtain ⟨g2, c2, e2, i2⟩ := row_int (owns_below HB11.out.2 hbr (Nat.le_refl _)) hk1
          injection e1 with e1 _ e3
          injection e2 with e2 _ e4
          subst e1 e2 e3 e4
          generalize ts.getD k 0 = z at i1 i2
          clear hbr
          go_upto_region 18 with fail
          go_quiet (fail)
          go_wp2_with fail
          go_roundw
          case rel => exact ⟨k + 1, hk1, by go_num, below_drewN HBR.out _⟩
          case measure => simp [RowKit.intOf]; omega
        · clear hbr
          have hkx : ¬ (k : Int) < (ts.length : Int) := by omega
          go_wp2_with fail
          go_ret
          exact ⟨rfl, bel_then (bel_then HB1.out HP11.out.my.bel) HBR.out⟩
end Go.Proofs.YtcoijhofliilmabGreatDoor

/-
  An argument that is a list of structs of whole numbers, taken apart: it has no element, or all lie in one block, each number an int. No conditions beyond the reading itself.
-/
namespace Go.Proofs.YtcoijhofliilmabGreatDoor
open Go.ChangeShapes Go.WideShapes Go.ChangeAt Go.RowKit Go.Deep

theorem script_open {H : Type} {enc : TypeId × Value → H} {P : Program} {W : World} {t e : TypeId} {fs : Array Field} {a0 : Option Addr} {len cap : Nat} {d : DataW H} {ps : List MemPlace} (ht : P.underlying t = some (.slice e)) (hs : P.underlying e = some (.struct fs))
    (hone : ∀ (i : Nat) (f : Field), fs[i]? = some f → f.offset = i ∧ P.cellsOf f.type = 1) (hC : P.cellsOf e = fs.size) (hint : ∀ (i : Nat) (f : Field), fs[i]? = some f → P.underlying f.type = some (.int .i64)) (hpos : 0 < fs.size)
    (h : DataW.Trod enc P W 0 (fun _ => true) true t (.slice a0 len cap) d ps) :
    len = 0 ∨ ∃ (b off : Nat) (X : Nat → Nat → Int), a0 = some ⟨b, off, none⟩ ∧ ∀ i, i < len → ∀ j, j < fs.size → W.cell? ⟨b, off + i * fs.size + j, none⟩ = some (.int .i64 (X i j)) ∧ (Lit.int .i64 (X i j)).wf = true := by
  obtain ⟨fuel, hf⟩ := h
  rcases open_slice ht hf with ⟨hcs, _⟩ | ⟨a, len', cap', m, n, D, Pl, hcs, _, hl, _, hmm, _, hi⟩
  · simp [Value.cells] at hcs
    exact Or.inl hcs.2.1
  simp [Value.cells] at hcs
  obtain ⟨rfl, rfl, rfl⟩ := hcs
  simp only [if_true] at hmm
  subst hmm
  by_cases h0 : len = 0
  · exact Or.inl h0
  right
  obtain ⟨b, off, spot⟩ := a
  have each : ∀ i, i < len → ∃ f : Nat → Int, ∀ j, j < fs.size → W.cell? (((⟨b, off, spot⟩ : Addr).add (i * fs.size)).add j) = some (.int .i64 (f j)) ∧ (Lit.int .i64 (f j)).wf = true := by
    intro i hil
    obtain ⟨cs, hc, ht'⟩ := hi i (by omega)
    obtain ⟨_, hlen, hcell⟩ := World.cells?_some hc
    rw [hC] at hlen hcell
    obtain ⟨xs, n', _, _, _, hxl, hfl⟩ := DataW.trod_struct hs ht'
    refine choose_lt (p := fun j z => W.cell? (((⟨b, off, spot⟩ : Addr).add (i * fs.size)).add j) = some (.int .i64 z) ∧ (Lit.int .i64 z).wf = true) fun j hj => ?_
    have hfj : fs[j]? = some fs[j] := Array.getElem?_eq_getElem hj
    obtain ⟨ho, hc1⟩ := hone j _ hfj
    have g := hfl j _ hfj
    rw [ho, hc1, take1_drop cs j undef (by omega), List.getElem?_eq_getElem (by omega)] at g
    obtain ⟨z, e1, _, w1⟩ := DataW.trod_int (hint j _ hfj) g
    have h1 := hcell j hj
    rw [List.getElem?_eq_getElem (by omega)] at h1
    simp only [List.cons.injEq, and_true] at e1
    rw [List.getD_eq_getElem?_getD, List.getElem?_eq_getElem (by omega), Option.getD_some] at e1
    exact ⟨z, by rw [h1, e1], w1⟩
  obtain ⟨X, hX⟩ := choose_lt (p := fun i (f : Nat → Int) => ∀ j, j < fs.size → W.cell? (((⟨b, off, spot⟩ : Addr).add (i * fs.size)).add j) = some (.int .i64 (f j)) ∧ (Lit.int .i64 (f j)).wf = true) each
  have hspot : spot = none := by simpa [Addr.add] using World.cell?_spot (hX 0 (by omega) 0 hpos).1
  subst hspot
  refine ⟨b, off, X, rfl, fun i hil j hj => ?_⟩
  have := hX i hil j hj
  rwa [add_plain, add_plain] at this
end Go.Proofs.YtcoijhofliilmabGreatDoor

/-
  An argument that is a list of orders, taken apart: they lie one behind the other from an address on, each number an int. No conditions beyond the reading itself.
-/
namespace Go.Proofs.YtcoijhofliilmabGreatDoor
open Go.ChangeShapes Go.WideShapes Go.ChangeAt Go.RowKit

def cfAllInt (P : Program) (fs : Array Field) : Bool := (List.range fs.size).all fun i => match fs[i]? with
  | some f => (match P.underlying f.type with | some (.int .i64) => true | _ => false)
  | none => false
theorem cfHint_of {P : Program} {fs : Array Field} (h : cfAllInt P fs = true) : ∀ (i : Nat) (f : Field), fs[i]? = some f → P.underlying f.type = some (.int .i64) := by
  intro i f hi
  have hlt : i < fs.size := (Array.getElem?_eq_some_iff.1 hi).1
  have := List.all_eq_true.1 h i (List.mem_range.2 hlt)
  simp only [hi] at this
  split at this
  · assumption
  · cases this
theorem ld_open {H : Type} {enc : TypeId × Value → H} {W : World} {a0 : Option Addr} {len cap : Nat} {d : DataW H} {ps : List MemPlace} (h : DataW.Trod enc Tryz.prog W 0 (fun _ => true) true 22 (.slice a0 len cap) d ps) :
    ∃ l : List Ord, l.length = len ∧ LdIn W a0 l ∧ ∀ o ∈ l, (Lit.int .i64 o.id).wf = true := by
  have h' := script_open Tryz.underlying22 Tryz.underlying40 (Deep.hone_of (by kernel_rfl)) (by kernel_rfl) (cfHint_of (by kernel_rfl)) (by decide) h
  rcases h' with rfl | ⟨b, off, X, rfl, hX⟩
  · exact ⟨[], rfl, fun k hk => by simp at hk, fun o ho => by cases ho⟩
  · have hX' : ∀ i, i < len → ∀ j, j < 5 → W.cell? ⟨b, off + i * 5 + j, none⟩ = some (.int .i64 (X i j)) ∧ (Lit.int .i64 (X i j)).wf = true := hX
    refine ⟨(List.range len).map fun i => ⟨X i 0, X i 1, X i 2, X i 3, X i 4⟩, by simp, fun k hk => ?_, fun o ho => ?_⟩
    · have hk' : k < len := by simpa using hk
      have e : oAt ((List.range len).map fun i => (⟨X i 0, X i 1, X i 2, X i 3, X i 4⟩ : Ord)) k = ⟨X k 0, X k 1, X k 2, X k 3, X k 4⟩ := by simp [oAt, hk']
      rw [e]
      exact ⟨b, off, rfl, (hX' k hk' 0 (by decide)).1, (hX' k hk' 1 (by decide)).1, (hX' k hk' 2 (by decide)).1, (hX' k hk' 3 (by decide)).1, (hX' k hk' 4 (by decide)).1⟩
    · obtain ⟨i, hi, rfl⟩ := List.mem_map.1 ho
      exact (hX' i (List.mem_range.1 hi) 0 (by decide)).2
end Go.Proofs.YtcoijhofliilmabGreatDoor

/-
  What the row's list of package variables gives: the cell of errors.errorType holds the handle of the type error (ErrT); and the closed facts on the program that every row of this seat asks.
-/
namespace Go.Proofs.YtcoijhofliilmabGreatDoor
open Go.RowKit

theorem Tryz.own : ownKnob Tryz.prog.godebug = none := by kernel_rfl
theorem Tryz.et : Tryz.prog.globalNamed "errors.errorType" = some 0 := by kernel_rfl
/-- the name of the dynamic type that the row lays in errors.errorType -/
def rtName : String := match (Rows.laid_errors_errorType : DataW Unit) with | .iface n _ => n | _ => default
theorem Tryz.rt : (Tryz.prog.cutTypes.find? (·.1 == rtName)).map (·.2) = some 150 := by kernel_rfl
theorem Tryz.oneRow : ((List.range 205).filter fun t => Tryz.prog.rowNamed t [101, 114, 114, 111, 114]) = [32] := by kernel_rfl
theorem Tryz.size : Tryz.prog.types.size = 205 := by kernel_rfl

def laidList : List (String × DataW Unit) := [("errors.errorType", Rows.laid_errors_errorType)]

theorem errT_of_laid {W : World} (h : laidMetH Tryz.prog laidList W) : ErrT W := by
  have h' : laidMet Tryz.prog [] W ∧ handlesMet Tryz.prog laidList W := h
  obtain ⟨name, u, ty, e1, e2, e3, e4, e5⟩ := h'.2 _ (List.mem_singleton.2 rfl)
  have en : name = [101, 114, 114, 111, 114] := (Option.some.inj e1).symm
  subst en
  obtain rfl := Option.some.inj (Tryz.rt.symm.trans e2)
  have hm : ty ∈ (List.range 205).filter fun t => Tryz.prog.rowNamed t [101, 114, 114, 111, 114] := List.mem_filter.2 ⟨List.mem_range.2 (by rw [← Tryz.size]; exact e3), e4⟩
  rw [Tryz.oneRow] at hm
  obtain rfl := List.mem_singleton.1 hm
  have hh : typeHandle Tryz.prog 32 = .pointer (some ⟨1, 32, none⟩) := by kernel_rfl
  rw [hh] at e5
  simpa [ErrT] using World.var?_cell Tryz.et e5 0

/-- A world, the cell of errors.errorType laid. -/
def withErrT (w : World) : World := { w with heap := w.heap.modify 0 fun
  | .cells _ t frozen => .cells #[.iface 150 (.agg #[.pointer (some ⟨1, 32, none⟩)])] t frozen
  | o => o }
end Go.Proofs.YtcoijhofliilmabGreatDoor
