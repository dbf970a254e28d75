/-
  What the program's known and refuses (9.2) return, over this seat's translation. Conditions stand in each theorem: where the engine lies.
-/
import Derived.Test.YtjdkagafdnchhaaGreatDoorLK
import Derived.Deep.RegionHeld3
import Derived.Test.YtjdkagafdnchhaaGreatDoorLQ
import Derived.Test.YtjdkagafdnchhaaGreatDoorLP
import Derived.Test.YtjdkagafdnchhaaGreatDoorLD
import Derived.Test.YtjdkagafdnchhaaGreatDoorLI
import Derived.Test.YtjdkagafdnchhaaGreatDoorLH
namespace Go.Proofs.YtjdkagafdnchhaaGreatDoor
open Go.RowKit

/-- 9.2: what is wrong first with an order that comes (its price as it is to be) -/
def refN (M : Mkt) (o : Ord) : Int := if knownB o = false then 1 else if rightB o.price o.qty = false then 2 else if takesB M.ph o.kind = false then 6 else if decide (o.id ∈ M.I) = true then 9 else if 100 ≤ M.L.length + M.P.length then 12 else 0
theorem right_same (p q : Int) : rightB p q = rightO p q := rfl
theorem ordN_ref (M : Mkt) (o : Ord) : ordN M o = refN M (lieO o) := by
  have e1 : (lieO o).kind = o.kind := by unfold lieO; split <;> rfl
  have e2 : (lieO o).qty = o.qty := by unfold lieO; split <;> rfl
  unfold ordN refN knownB
  rw [lieO_side, lieO_id, e1, e2, right_same]
  by_cases h1 : (decide (1 ≤ o.side) && decide (o.side ≤ 2)) = false
  · rw [if_pos (Or.inl h1), h1]; rfl
  · have h1' : (decide (1 ≤ o.side) && decide (o.side ≤ 2)) = true := by simpa using h1
    by_cases h2 : (decide (1 ≤ o.kind) && decide (o.kind ≤ 4)) = false
    · rw [if_pos (Or.inr (Or.inl h2)), h1', h2]; rfl
    · have h2' : (decide (1 ≤ o.kind) && decide (o.kind ≤ 4)) = true := by simpa using h2
      by_cases h3 : o.id < 1
      · rw [if_pos (Or.inr (Or.inr h3)), h1', h2', decide_eq_false (by omega)]; rfl
      · rw [if_neg (by rintro (h | h | h) <;> contradiction), h1', h2', decide_eq_true (by omega)]
        simp only [decide_eq_true_eq]
        rfl
set_option maxRecDepth 4000 in
set_option maxHeartbeats 4000000 in
theorem egRefuses (eb : Nat) (k : EgK) (M : Mkt) (o : Ord) (w : World) (h : Eg w eb k M) (hw : (Lit.int .i64 o.id).wf = true) (hP : M.P.length ≤ 1000) :
    Calls Tryz.prog 48 #[.pointer (some ⟨eb, 0, none⟩), o.agg] w fun e w' => e = .returned (.int .i64 (refN M o)) ∧ Below w.heap.size w w' := by
  have hL := h.few100
  have hlen : ((k.b.S 0).length + (k.b.S 1).length : Nat) = M.L.length := h.lnk.len.symm
  have HLEN : Hid (((k.b.S 0).length + (k.b.S 1).length : Nat) = M.L.length) := hlen
  have HW : Hid ((Lit.int .i64 o.id).wf = true) := hw
  have H : Hid (Eg w eb k M) := h
  obtain ⟨pa, pc, hvp, _, _⟩ := owns_shape h.pk
  have HVP : Hid (k.vp = .slice pa M.P.length pc) := hvp
  clear h hw hlen hvp
  unfold Ord.agg
  go_enter Tryz.func48, Tryz.ntmps48
  go_upto_region 1 with fail
  have hx := heap_alloc_new w (.cells #[.int .i64 o.id, .int .i64 o.side, .int .i64 o.kind, .int .i64 o.price, .int .i64 o.qty] 41)
  have hb1 := bel1 w (.cells #[.int .i64 o.id, .int .i64 o.side, .int .i64 o.kind, .int .i64 o.price, .int .i64 o.qty] 41)
  generalize w.alloc (.cells #[.int .i64 o.id, .int .i64 o.side, .int .i64 o.kind, .int .i64 o.price, .int .i64 o.qty] 41) = w1 at hx hb1 ⊢
  have h1 := H.out.below hb1
  have c4 : w1.cell? ⟨eb, 4, none⟩ = some (.map (some k.tk)) := blk_cell (j := 4) h1.box rfl
  have x0 : w1.cell? ⟨w.heap.size, 0, none⟩ = some (.int .i64 o.id) := blk_cell (j := 0) hx rfl
  have c4b : (w1.alloc (.cells #[] 111)).cell? ⟨eb, 4, none⟩ = some (.map (some k.tk)) := blk_cell (j := 4) (h1.below (bel1 _ _)).box rfl
  have x0b : (w1.alloc (.cells #[] 111)).cell? ⟨w.heap.size, 0, none⟩ = some (.int .i64 o.id) := blk_cell (j := 0) (blk_below hx (bel1 _ _) (Nat.le_refl _)) rfl
  have la := (h1.below (Below.refl _ _).drew).tkn.look HW.out
  have lb : ∀ obj, (Instr.lookup 96 (.map (some k.tk)) (.int .i64 o.id) true).run Tryz.prog (w1.drew.alloc obj) = .ok (.tuple #[.agg #[], .bool (decide (o.id ∈ M.I))]) (w1.drew.alloc obj) := fun obj => ((h1.below (Below.refl _ _).drew).below (bel1 _ obj)).tkn.look HW.out
  have lc : ∀ obj, (Instr.lookup 96 (.map (some k.tk)) (.int .i64 o.id) true).run Tryz.prog (w1.alloc obj).drew = .ok (.tuple #[.agg #[], .bool (decide (o.id ∈ M.I))]) (w1.alloc obj).drew := fun obj => ((h1.below (bel1 _ obj)).below (Below.refl _ _).drew).tkn.look HW.out
  have HX : Hid _ := hx
  have HB1 : Hid (Below w.heap.size w w1) := hb1
  have H1 : Hid (Eg w1 eb k M) := h1
  clear hx hb1 h1
  generalize hd : decide (o.id ∈ M.I) = d at la lb lc
  have HD : Hid (decide (o.id ∈ M.I) = d) := hd
  clear hd
  go_region
  have h2 := (H1.out.below (bel1 _ (.cells #[] 111))).drew
  have hx2 := blk_below (blk_below HX.out (bel1 _ (.cells #[] 111)) (Nat.le_refl _)) ((Below.refl (w1.alloc (.cells #[] 111)).heap.size _).drew) (Nat.le_refl _)
  have HB2 : Hid (Below w.heap.size w (w1.alloc (.cells #[] 111)).drew) := (bel_then HB1.out (bel1 _ _)).drew
  generalize (w1.alloc (.cells #[] 111)).drew = w2 at h2 hx2 HB2 ⊢
  have y0 : w2.cell? ⟨w.heap.size, 0, none⟩ = some (.int .i64 o.id) := blk_cell (j := 0) hx2 rfl
  have y1 : w2.cell? ⟨w.heap.size, 1, none⟩ = some (.int .i64 o.side) := blk_cell (j := 1) hx2 rfl
  have y2 : w2.cell? ⟨w.heap.size, 2, none⟩ = some (.int .i64 o.kind) := blk_cell (j := 2) hx2 rfl
  have y3 : w2.cell? ⟨w.heap.size, 3, none⟩ = some (.int .i64 o.price) := blk_cell (j := 3) hx2 rfl
  have y4 : w2.cell? ⟨w.heap.size, 4, none⟩ = some (.int .i64 o.qty) := blk_cell (j := 4) hx2 rfl
  have H2 : Hid (Eg w2 eb k M) := h2
  have HX2 : Hid _ := hx2
  clear h2 hx2 c4 x0 c4b x0b la lb lc HX HB1 H1
  go_wp2_with fail
  refine (egKnown o w2).mono ?_
  rintro e w3 ⟨rfl, hb3⟩
  have H3 : Hid (Eg w3 eb k M) := H2.out.below hb3
  have hx3 := blk_below HX2.out hb3 (Nat.le_refl _)
  have HB3 : Hid (Below w.heap.size w w3) := bel_then HB2.out hb3
  have z3 : w3.cell? ⟨w.heap.size, 3, none⟩ = some (.int .i64 o.price) := blk_cell (j := 3) hx3 rfl
  have z4 : w3.cell? ⟨w.heap.size, 4, none⟩ = some (.int .i64 o.qty) := blk_cell (j := 4) hx3 rfl
  have HX3 : Hid _ := hx3
  clear hb3 hx3 y0 y1 y2 y3 y4 HX2
  cases hk : knownB o with
  | false =>
    have HR : Hid (refN M o = 1) := by show _ = _; unfold refN; rw [if_pos hk]
    clear hk
    go_wp2_with fail
    go_ret
    exact ⟨by rw [HR.out]; rfl, HB3.out⟩
  | true =>
    have HK : Hid (¬ knownB o = false) := by show ¬ _; rw [hk]; decide
    clear hk
    go_wp2_with fail
    refine (Right_any o.price o.qty w3).mono ?_
    rintro e w4 ⟨rfl, hb4⟩
    have H4 : Hid (Eg w4 eb k M) := H3.out.below hb4
    have HX4 : Hid _ := blk_below HX3.out hb4 (Nat.le_refl _)
    have HB4 : Hid (Below w.heap.size w w4) := bel_then HB3.out hb4
    clear hb4 z3 z4 HX3
    cases hr : rightB o.price o.qty with
    | false =>
      have HR : Hid (refN M o = 2) := by show _ = _; unfold refN; rw [if_neg HK.out, if_pos hr]
      clear hr
      go_wp2_with fail
      go_ret
      exact ⟨by rw [HR.out]; rfl, HB4.out⟩
    | true =>
      have HRT : Hid (¬ rightB o.price o.qty = false) := by show ¬ _; rw [hr]; decide
      clear hr
      go_upto_region 6 with fail
      have k5 := cell_regrown (blk_cell (j := 5) (v := .int .i64 M.ph) H4.out.box rfl)
      have k2 := cell_regrown (blk_cell (j := 2) (v := .int .i64 o.kind) HX4.out rfl)
      have cT : ∀ dq os, Calls Tryz.prog 92 #[.int .i64 M.ph, .int .i64 o.kind] (Go.Sort.grow (redrawn w4 dq) os) fun e w'' => e = .returned (.bool (takesB M.ph o.kind)) ∧ ∃ p : Regrown, w'' = Go.Sort.grow (redrawn w4 p.d) p.os := fun dq os => (tkTakes M.ph o.kind _).mono (fun _ _ ⟨he, hw⟩ => ⟨he, ⟨dq, os⟩, hw⟩)
      refine wp_region_quiet_below (by kernel_rfl) (by kernel_rfl) ?_
      repeat (go_big_quiet_step (exact cT _ _))
      refine wpQuiet_nil ?_
      intro _ hw'
      obtain ⟨⟨dq, osq⟩, hw''⟩ := hw'
      subst hw''
      have H5 : Hid (Eg (Go.Sort.grow (redrawn w4 dq) osq) eb k M) := H4.out.below (below_regrown w4 dq osq)
      have HB5 : Hid (Below w.heap.size w (Go.Sort.grow (redrawn w4 dq) osq)) := bel_then HB4.out (below_regrown w4 dq osq)
      generalize Go.Sort.grow (redrawn w4 dq) osq = w5 at H5 HB5 ⊢
      clear k5 k2 cT HX4 H4
      cases ht : takesB M.ph o.kind with
      | false =>
        have HR : Hid (refN M o = 6) := by show _ = _; unfold refN; rw [if_neg HK.out, if_neg HRT.out, if_pos ht]
        clear ht
        go_wp2_with fail
        go_ret
        exact ⟨by rw [HR.out]; rfl, HB5.out⟩
      | true =>
        have HTT : Hid (¬ takesB M.ph o.kind = false) := by show ¬ _; rw [ht]; decide
        clear ht
        cases d with
        | true =>
          have HR : Hid (refN M o = 9) := by show _ = _; unfold refN; rw [if_neg HK.out, if_neg HRT.out, if_neg HTT.out, if_pos HD.out]
          go_wp2_with fail
          go_ret
          exact ⟨by rw [HR.out]; rfl, HB5.out⟩
        | false =>
          have HR : Hid (refN M o = if 100 ≤ M.L.length + M.P.length then 12 else 0) := by show _ = _; unfold refN; rw [if_neg HK.out, if_neg HRT.out, if_neg HTT.out, if_neg (by rw [HD.out]; decide)]
          go_upto_region 10 with fail
          have k2 := cell_regrown (blk_cell (j := 2) (v := .pointer (some ⟨k.bb, 0, none⟩)) H5.out.box rfl)
          have k3' : w5.cell? ⟨eb, 3, none⟩ = some (.slice pa M.P.length pc) := (blk_cell (j := 3) (v := k.vp) H5.out.box rfl).trans (by rw [HVP.out])
          have k3 := cell_regrown k3'
          clear k3'
          have cM : ∀ dq os, Calls Tryz.prog 93 #[.pointer (some ⟨k.bb, 0, none⟩)] (Go.Sort.grow (redrawn w5 dq) os) fun e w'' => e = .returned (.int .i64 (M.L.length : Int)) ∧ ∃ p : Regrown, w'' = Go.Sort.grow (redrawn w5 p.d) p.os := fun dq os => by
            have := Calls.regrown_of (pbMany k.bb k.m k.b (Go.Sort.grow (redrawn w5 dq) os) (H5.out.bk.below (below_regrown w5 dq os) (Nat.le_refl _)))
            rw [HLEN.out] at this
            exact this
          refine wp_region_quiet_below (by kernel_rfl) (by kernel_rfl) ?_
          repeat (go_big_quiet_step (exact cM _ _))
          refine wpQuiet_nil ?_
          intro _ hw'
          obtain ⟨⟨dq, osq⟩, hw''⟩ := hw'
          subst hw''
          have HB6 : Hid (Below w.heap.size w (Go.Sort.grow (redrawn w5 dq) osq)) := bel_then HB5.out (below_regrown w5 dq osq)
          generalize Go.Sort.grow (redrawn w5 dq) osq = w6 at HB6 ⊢
          clear k2 k3 cM
          by_cases h100 : 100 ≤ M.L.length + M.P.length
          · have HR2 : Hid (refN M o = 12) := by show _ = _; rw [HR.out, if_pos h100]
            go_wp2_with fail
            go_ret
            exact ⟨by rw [HR2.out]; rfl, HB6.out⟩
          · have HR2 : Hid (refN M o = 0) := by show _ = _; rw [HR.out, if_neg h100]
            go_wp2_with fail
            go_ret
            exact ⟨by rw [HR2.out]; rfl, HB6.out⟩
end Go.Proofs.YtjdkagafdnchhaaGreatDoor

/-
  What the program's Order (9.2) does, over this seat's translation. Conditions stand in each theorem: where the engine lies, that the market's numbers are such as may be.
-/
namespace Go.Proofs.YtjdkagafdnchhaaGreatDoor
open Go.RowKit

structure RefOk (M : Mkt) (p : Ord) : Prop where
  side : p.side = 1 ∨ p.side = 2
  kind : 1 ≤ p.kind ∧ p.kind ≤ 4
  id : 1 ≤ p.id
  right : 1 ≤ p.price ∧ p.price ≤ 1000000 ∧ 1 ≤ p.qty ∧ p.qty ≤ 1000000
  takes : takesB M.ph p.kind = true
  new : p.id ∉ M.I
  room : M.L.length + M.P.length < 100
theorem refN_zero {M : Mkt} {p : Ord} (h : refN M p = 0) : RefOk M p := by
  unfold refN at h
  by_cases h1 : knownB p = false
  · rw [if_pos h1] at h; cases h
  rw [if_neg h1] at h
  by_cases h2 : rightB p.price p.qty = false
  · rw [if_pos h2] at h; cases h
  rw [if_neg h2] at h
  by_cases h3 : takesB M.ph p.kind = false
  · rw [if_pos h3] at h; cases h
  rw [if_neg h3] at h
  by_cases h4 : decide (p.id ∈ M.I) = true
  · rw [if_pos h4] at h; cases h
  rw [if_neg h4] at h
  by_cases h5 : 100 ≤ M.L.length + M.P.length
  · rw [if_pos h5] at h; cases h
  have k1 : knownB p = true := by simpa using h1
  have k2 : rightB p.price p.qty = true := by simpa using h2
  unfold knownB at k1
  simp only [Bool.and_eq_true, decide_eq_true_eq] at k1
  unfold rightB at k2
  rw [Bool.and_eq_true] at k2
  have r1 := inB_true k2.1
  have r2 := inB_true k2.2
  exact ⟨by omega, by omega, by omega, ⟨r1.1, r1.2, r2.1, r2.2⟩, by simpa using h3, by simpa using h4, by omega⟩
theorem egTells_go {w w1 w2 : World} {eb : Nat} {k k1 : EgK} {M1 : Mkt} {r : List Fil × Mkt} {vf : Value} {n : Nat} (h : EgGo w w1 eb k k1 M1) (h1 : ∃ k', w2.ownsRow w1.heap.size 115 4 vf r.1.length (fV r.1) ∧ EgGo w1 w2 eb k1 k' r.2 ∧ k'.m ≤ k1.m + n) (hn : k1.m + n ≤ k.m + 302) : EgTells w w2 eb k r vf := by
  obtain ⟨k', a, b, c⟩ := h1
  exact ⟨k', owns_base a h.2.1.size, h.trans b, Nat.le_trans c hn⟩
def egPar (M : Mkt) (p : Ord) : Mkt := { M with P := M.P ++ [p] }
/-- those who wait, and one more: the statement's walk -/
theorem lieO_cells {wc : World} {b : Nat} {p : Ord} (h : OrdAt wc b p) : wc.cell? ⟨b, 0, none⟩ = some (.int .i64 p.id) ∧ wc.cell? ⟨b, 1, none⟩ = some (.int .i64 p.side) ∧ wc.cell? ⟨b, 2, none⟩ = some (.int .i64 p.kind) ∧ wc.cell? ⟨b, 3, none⟩ = some (.int .i64 p.price) ∧ wc.cell? ⟨b, 4, none⟩ = some (.int .i64 p.qty) := ⟨blk_cell (j := 0) h rfl, blk_cell (j := 1) h rfl, blk_cell (j := 2) h rfl, blk_cell (j := 3) h rfl, blk_cell (j := 4) h rfl⟩

set_option maxRecDepth 8000 in
set_option maxHeartbeats 8000000 in
theorem egOrder (eb : Nat) (k : EgK) (M : Mkt) (o : Ord) (w : World) (h : Eg w eb k M) (hN : MNum M) (hw : (Lit.int .i64 o.id).wf = true) (hm : k.m ≤ 600000) :
    Calls Tryz.prog 10 #[.pointer (some ⟨eb, 0, none⟩), o.agg] w fun e w' => ∃ vf err, e = .returned (.tuple #[vf, err]) ∧ ErrE err (ordN M o) ∧ EgTells w w' eb k (ordM M o) vf := by
  have H : Hid (Eg w eb k M) := h
  have HN : Hid (MNum M) := hN
  have HORD : Hid (ordN M o = refN M (lieO o) ∧ ordM M o = if refN M (lieO o) = 0 then takenM { M with I := M.I ++ [(lieO o).id] } (lieO o) else ([], M)) := ⟨ordN_ref M o, by unfold ordM; rw [ordN_ref, lieO_id]⟩
  have HWF : Hid ((Lit.int .i64 (lieO o).id).wf = true) := by show _ = _; rw [lieO_id]; exact hw
  have hpk := hN.pk
  clear h hN hw
  unfold Ord.agg
  go_enter Tryz.func10, Tryz.ntmps10
  go_upto_region 1 with fail
  have hx := heap_alloc_new w (.cells #[.int .i64 o.id, .int .i64 o.side, .int .i64 o.kind, .int .i64 o.price, .int .i64 o.qty] 41)
  have hb := bel1 w (.cells #[.int .i64 o.id, .int .i64 o.side, .int .i64 o.kind, .int .i64 o.price, .int .i64 o.qty] 41)
  generalize w.alloc (.cells #[.int .i64 o.id, .int .i64 o.side, .int .i64 o.kind, .int .i64 o.price, .int .i64 o.qty] 41) = w1 at hx hb ⊢
  have y2 : w1.cell? ⟨w.heap.size, 2, none⟩ = some (.int .i64 o.kind) := blk_cell (j := 2) hx rfl
  have y3 : w1.cell? ⟨w.heap.size, 3, none⟩ = some (.int .i64 o.price) := blk_cell (j := 3) hx rfl
  have g3 := blk_free (j := 3) hx
  have HX : Hid _ := hx
  have HB : Hid (Below w.heap.size w w1) := hb
  clear hx hb
  go_upto_if 9 with fail
  go_cut [9] (fun _ wc => OrdAt wc w.heap.size (lieO o) ∧ Below w.heap.size w wc)
  case first =>
    by_cases hk : o.kind = 2
    · have HE : Hid (lieO o = { o with price := 1 }) := if_pos hk
      have bk : (o.kind == 2) = true := beq_iff_eq.2 hk
      clear hk
      go_wp2_with fail
      go_meet
      exact ⟨by rw [HE.out]; exact blk_set (j := 3) (.int .i64 1) HX.out, HB.out.setCell (p := ⟨w.heap.size, 3, none⟩) (Nat.le_refl _) _⟩
    · have HE : Hid (lieO o = o) := if_neg hk
      have bk : (o.kind == 2) = false := beq_eq_false_iff_ne.2 hk
      clear hk
      go_wp2_with fail
      go_meet
      exact ⟨by rw [HE.out]; exact HX.out, HB.out⟩
  case rest =>
    obtain ⟨hx, hb⟩ := hcut
    clear HX HB y2 y3 g3
    generalize lieO o = p at hx HORD HWF
    obtain ⟨x0, x1, x2, x3, x4⟩ := lieO_cells hx
    have HX : Hid (OrdAt wc w.heap.size p) := hx
    have HB : Hid (Below w.heap.size w wc) := hb
    have HC : Hid (Eg wc eb k M) := H.out.below hb
    clear hx hb
    go_wp2_with fail
    refine (egRefuses eb k M p wc HC.out HWF.out (by omega)).mono ?_
    rintro e w2 ⟨rfl, hb2⟩
    have HB2 : Hid (Below w.heap.size w w2) := bel_then HB.out hb2
    have H2 : Hid (Eg w2 eb k M) := HC.out.below hb2
    have HX2 : Hid (OrdAt w2 w.heap.size p) := blk_below HX.out hb2 (Nat.le_refl _)
    clear hb2 x0 x1 x2 x3 x4 HB HX HC
    by_cases h0 : refN M p = 0
    · have HR : Hid (RefOk M p) := refN_zero h0
      have HO2 : Hid (ordN M o = 0 ∧ ordM M o = takenM { M with I := M.I ++ [p.id] } p) := ⟨by rw [HORD.out.1, h0], by rw [HORD.out.2, if_pos h0]⟩
      rw [h0]
      clear h0 HORD
      go_upto_region 6 with fail
      obtain ⟨w3, hrun, hm3, ho3⟩ := H2.out.drew.tkn.put HWF.out (by have := H2.out.few; omega)
      have h3 := H2.out.drew.ofTaken hm3 ho3 (by omega)
      have hebt : eb ≠ k.tk := H2.out.ebtk
      have hobt : w.heap.size ≠ k.tk := H2.out.tkn.ne HX2.out
      have HS6 : Hid (∀ w', Out (fun j => j = k.tk) w2 w' → w'.cell? ⟨eb, 4, none⟩ = some (.map (some k.tk)) ∧ w'.cell? ⟨w.heap.size, 0, none⟩ = some (.int .i64 p.id) ∧ Out (fun j => j = k.tk) w2 w') := fun w' ho => ⟨blk_cell (j := 4) (blk_out H2.out.box ho hebt) rfl, blk_cell (j := 0) (blk_out HX2.out ho hobt) rfl, ho⟩
      have HO3 : Hid (Out (fun j => j = k.tk) w2 w3) := out_then (out_drew (Out.refl _ _)) ho3
      have HX3 : Hid (OrdAt w3 w.heap.size p) := blk_out HX2.out HO3.out hobt
      have H3 : Hid (EgGo w w3 eb k { k with m := k.m + 1, n := k.n + 1 } { M with I := M.I ++ [p.id] }) := ((EgGo.stay H.out HB2.out).bel (Below.refl _ _).drew).trans h3
      clear hm3 ho3 h3 hebt hobt
      go_region_held3 (fun w' => w'.cell? ⟨eb, 4, none⟩ = some (.map (some k.tk)) ∧ w'.cell? ⟨w.heap.size, 0, none⟩ = some (.int .i64 p.id) ∧ Out (fun j => j = k.tk) w2 w')
        ((refine HS6.out _ ?_; first | exact HO3.out | exact out_drew (Out.refl _ _) | exact Out.refl _ _)) (fail)
      obtain ⟨y0, y1, y2, y3, y4⟩ := lieO_cells HX3.out
      have c5 : w3.cell? ⟨eb, 5, none⟩ = some (.int .i64 M.ph) := blk_cell (j := 5) H3.out.1.box rfl
      clear hrun HS6 HO3 H2 HX2 HB2
      by_cases hpark : p.kind = 4 ∧ M.ph ≠ 5
      · have HT : Hid (takenM { M with I := M.I ++ [p.id] } p = ([], { M with I := M.I ++ [p.id], P := M.P ++ [p] })) := by show _ = _; unfold takenM; rw [if_pos hpark]
        have b4 : (p.kind == 4) = true := beq_iff_eq.2 hpark.1
        have b5 : (M.ph != 5) = true := by simpa using hpark.2
        clear hpark
        go_upto_region 9 with fail
        obtain ⟨i0, hi0, hz0, hz1, hz2⟩ := info_parts Tryz.infoOrdE
        have hvx : k.vp.ownBlock ≠ some w.heap.size := fun e => by have := (H.out.pk.lt _ e).2; omega
        have HS9 : Hid (∀ w', Out (fun j => k.vp.ownBlock = some j) w3 w' → w'.cell? ⟨eb, 3, none⟩ = some k.vp ∧ w'.cell? ⟨w.heap.size, 0, none⟩ = some (.int .i64 p.id) ∧ w'.cell? ⟨w.heap.size, 1, none⟩ = some (.int .i64 p.side) ∧ w'.cell? ⟨w.heap.size, 2, none⟩ = some (.int .i64 p.kind) ∧ w'.cell? ⟨w.heap.size, 3, none⟩ = some (.int .i64 p.price) ∧ w'.cell? ⟨w.heap.size, 4, none⟩ = some (.int .i64 p.qty) ∧ Out (fun j => k.vp.ownBlock = some j) w3 w') := fun w' ho => by
          obtain ⟨z0, z1, z2, z3, z4⟩ := lieO_cells (blk_out HX3.out ho hvx)
          exact ⟨blk_cell (j := 3) (v := k.vp) (blk_out H3.out.1.box ho H3.out.1.ebpk) rfl, z0, z1, z2, z3, z4, ho⟩
        have hlen : M.P.length + 1 ≤ maxLen := by unfold maxLen; omega
        clear hvx y0 y1 y2 y3 y4 c5
        refine wp_region_late (fun w' => w'.cell? ⟨eb, 3, none⟩ = some k.vp ∧ w'.cell? ⟨w.heap.size, 0, none⟩ = some (.int .i64 p.id) ∧ w'.cell? ⟨w.heap.size, 1, none⟩ = some (.int .i64 p.side) ∧ w'.cell? ⟨w.heap.size, 2, none⟩ = some (.int .i64 p.kind) ∧ w'.cell? ⟨w.heap.size, 3, none⟩ = some (.int .i64 p.price) ∧ w'.cell? ⟨w.heap.size, 4, none⟩ = some (.int .i64 p.qty) ∧ Out (fun j => k.vp.ownBlock = some j) w3 w') (fun i => i == 10) (by kernel_rfl) (HS9.out _ (out_drew (Out.refl _ _))) (fun hHeld => ?_)
        refine wpAnyL_take (i := 0) (v := ?_) rfl (by kernel_rfl) (by kernel_rfl) (by kernel_rfl) (by kernel_rfl) (by kernel_rfl) (fun _ _ _ h => h) (by rfl) ?_ (by assumption) ?_
        rotate_left
        · intro w hSw
          try dsimp only at hSw
          go_simp
          try rfl
        refine wpAnyL_take (i := 1) (v := ?_) rfl (by kernel_rfl) (by kernel_rfl) (by kernel_rfl) (by kernel_rfl) (by kernel_rfl) (fun _ _ _ h => h) (by rfl) ?_ (by assumption) ?_
        rotate_left
        · intro w hSw
          try dsimp only at hSw
          go_simp
          try rfl
        refine wpAnyL_take (i := 2) (v := ?_) rfl (by kernel_rfl) (by kernel_rfl) (by kernel_rfl) (by kernel_rfl) (by kernel_rfl) (fun _ _ _ h => h) (by rfl) ?_ (by assumption) ?_
        rotate_left
        · intro w hSw
          try dsimp only at hSw
          go_simp
          try rfl
        refine wpAnyL_take (i := 3) (v := ?_) rfl (by kernel_rfl) (by kernel_rfl) (by kernel_rfl) (by kernel_rfl) (by kernel_rfl) (fun _ _ _ h => h) (by rfl) ?_ (by assumption) ?_
        rotate_left
        · intro w hSw
          try dsimp only at hSw
          go_simp
          try rfl
        refine wpAnyL_take (i := 4) (v := ?_) rfl (by kernel_rfl) (by kernel_rfl) (by kernel_rfl) (by kernel_rfl) (by kernel_rfl) (fun _ _ _ h => h) (by rfl) ?_ (by assumption) ?_
        rotate_left
        · intro w hSw
          try dsimp only at hSw
          go_simp
          try rfl
        refine wpAnyL_take (i := 5) (v := ?_) rfl (by kernel_rfl) (by kernel_rfl) (by kernel_rfl) (by kernel_rfl) (by kernel_rfl) (fun _ _ _ h => h) (by rfl) ?_ (by assumption) ?_
        rotate_left
        · intro w hSw
          try dsimp only at hSw
          go_simp
          try rfl
        refine wpAnyL_ready (rs := [6]) (by kernel_rfl) (by simp) ?_
        refine AllReadyL.cons rfl (fun K hK => ?_) AllReadyL.nil
        go_simp
        refine hK.out _ _ (fun _ => HS9.out _ (out_alloc (out_drew (Out.refl _ _)) _)) (fun hHeld => ?_)
        replace hHeld := hHeld rfl
        clear hK K
        refine wpAnyL_ready (rs := [7]) (by kernel_rfl) (by simp) ?_
        refine AllReadyL.cons rfl (fun K hK => ?_) AllReadyL.nil
        refine step_append_any _ rfl (.tmp 44) (.tmp 46) 59 rfl 0 41 i0 _ 5 40 Tryz.underlying59 hi0 hz0 hz1 hz2 (by rfl) (by omega) k.vp M.P.length (oV M.P) (by rfl) (owns_below (H3.out.1.drew).pk (bel1 _ _) (Nat.le_refl _)) (some ⟨w3.heap.size, 0, none⟩) 1 1 [.int .i64 p.id, .int .i64 p.side, .int .i64 p.kind, .int .i64 p.price, .int .i64 p.qty] (by rfl) (by rfl) (Or.inr ⟨_, rfl, World.news_of_block (cs := #[.int .i64 p.id, .int .i64 p.side, .int .i64 p.kind, .int .i64 p.price, .int .i64 p.qty]) (t := 41) (fr := (0, 0)) (heap_alloc_new w3.drew _)⟩) (by simp [Value.oneCell']) hlen (by omega) (Nat.zero_le _) ?_
        intro v5 w5 h5 hg5 hk5
        obtain ⟨a5, n5, hv5, _, _⟩ := owns_shape h5
        subst hv5
        have HO5 : Hid (Out (fun j => k.vp.ownBlock = some j) w3 w5) := out_then (out_alloc (out_drew (Out.refl _ _)) _) (Out.of_grown hg5 (fun _ e => e))
        have hfin := H3.out.1.ofParked (P' := M.P ++ [p]) HO5.out (by rw [List.length_append, oV_append]; exact h5) (fun j hj => (hk5 j hj).imp id (fun e => Nat.le_trans (Nat.le_succ _) (by simpa using e)))
        have d3 : w5.cell? ⟨eb, 3, none⟩ = some k.vp := (HS9.out _ HO5.out).1
        have g3 := blk_free (j := 3) (blk_out H3.out.1.box HO5.out H3.out.1.ebpk)
        have H5 : Hid (EgGo w (w5.setCell ⟨eb, 3, none⟩ (.slice a5 (M.P.length + 1) n5)) eb k { k with m := k.m + 1, n := k.n + 1, vp := .slice a5 (M.P.length + 1) n5 } { M with I := M.I ++ [p.id], P := M.P ++ [p] }) := H3.out.trans hfin
        clear h5 hg5 hk5 hfin
        refine hK.out _ _ (fun _ => HS9.out _ HO5.out) (fun hHeld => ?_)
        replace hHeld := hHeld rfl
        clear hK K
        refine wpAnyL_take (i := 8) (v := ?_) rfl (by kernel_rfl) (by kernel_rfl) (by kernel_rfl) (by kernel_rfl) (by kernel_rfl) (fun _ _ _ h => h) (by rfl) ?_ (by assumption) ?_
        rotate_left
        · intro w hSw
          try dsimp only at hSw
          go_simp
          try rfl
        refine wpAnyL_take (i := 9) (v := ?_) rfl (by kernel_rfl) (by kernel_rfl) (by kernel_rfl) (by kernel_rfl) (by kernel_rfl) (fun _ _ _ h => h) (by rfl) ?_ (by assumption) ?_
        rotate_left
        · intro w hSw
          try dsimp only at hSw
          go_simp
          try rfl
        refine wpAnyL_ready (rs := [10]) (by kernel_rfl) (by simp) ?_
        refine AllReadyL.cons rfl (fun K hK => ?_) AllReadyL.nil
        go_simp
        refine hK.out _ _ (fun h => by cases h) (fun _ => ?_)
        refine wpAnyL_done (by kernel_rfl) ?_ _
        go_wp2_with fail
        go_ret2
        exact ⟨_, _, rfl, ErrE.yes HO2.out.1, EgTells.none_ (HO2.out.2.trans HT.out) H5.out (by show k.m + 1 ≤ k.m + 302; omega)⟩
      · by_cases h3 : M.ph = 3
        · have HT : Hid (takenM { M with I := M.I ++ [p.id] } p = tradeM { M with I := M.I ++ [p.id] } p) := by show _ = _; unfold takenM; rw [if_neg hpark, if_neg (fun e => e h3)]
          have b4 : (p.kind == 4) = false := beq_eq_false_iff_ne.2 (fun e => hpark ⟨e, by rw [h3]; decide⟩)
          have b3 : (M.ph == 3) = true := beq_iff_eq.2 h3
          clear hpark h3
          go_wp2_with fail
          refine (egTrade eb { k with m := k.m + 1, n := k.n + 1 } { M with I := M.I ++ [p.id] } p w3 H3.out.1 (by show k.m + 1 ≤ 700000; omega) HR.out.side (by have := HR.out.right; omega) HWF.out (by have := HN.out.now; show 0 ≤ M.now ∧ M.now ≤ 1000000000000; omega) (by have := HN.out.ti; show 0 ≤ M.ti ∧ M.ti ≤ 1000000000000; omega)).mono ?_
          rintro e w4 ⟨vf, k4, rfl, hr4, hg4, hk4⟩
          have HTE : Hid (EgTells w w4 eb k (tradeM { M with I := M.I ++ [p.id] } p) vf) := egTells_go H3.out ⟨k4, hr4, hg4, hk4⟩ (by show k.m + 1 + 101 ≤ k.m + 302; omega)
          clear hr4 hg4 hk4
          go_wp2_with fail
          go_ret2
          exact ⟨_, _, rfl, ErrE.yes HO2.out.1, by rw [HO2.out.2, HT.out]; exact HTE.out⟩
        · have HT : Hid (takenM { M with I := M.I ++ [p.id] } p = ([], { M with I := M.I ++ [p.id], L := addL p M.L })) := by show _ = _; unfold takenM; rw [if_neg hpark, if_pos h3]
          have b3 : (M.ph == 3) = false := beq_eq_false_iff_ne.2 h3
          by_cases h4 : p.kind = 4
          · have b4 : (p.kind == 4) = true := beq_iff_eq.2 h4
            have b5 : (M.ph != 5) = false := by
              have : M.ph = 5 := Classical.byContradiction (fun e => hpark ⟨h4, e⟩)
              simp [this]
            clear hpark h3 h4
            have hxl := heap_alloc_new w3 (.cells #[.int .i64 p.id, .int .i64 p.side, .int .i64 p.kind, .int .i64 p.price, .int .i64 p.qty] 41)
            have hbl := bel1 w3 (.cells #[.int .i64 p.id, .int .i64 p.side, .int .i64 p.kind, .int .i64 p.price, .int .i64 p.qty] 41)
            go_wp2_with fail
            generalize w3.alloc (.cells #[.int .i64 p.id, .int .i64 p.side, .int .i64 p.kind, .int .i64 p.price, .int .i64 p.qty] 41) = w4 at hxl hbl ⊢
            have h4 := H3.out.1.below hbl
            have hfar : ∀ b off, some (⟨w3.heap.size, 0, none⟩ : Addr) = some ⟨b, off, none⟩ → ¬ k.b.foot k.bb b := fun b off e => by
              injection e with e
              injection e with e _ _
              rw [← e]
              exact h4.bk.farBox hxl (by decide) (by decide) (by decide) (by decide) (by decide)
            have hin : OrdsIn w4 (some ⟨w3.heap.size, 0, none⟩) [p] := fun i hi => by
              have e : i = 0 := by simp at hi; omega
              subst e
              exact ⟨w3.heap.size, 0, rfl, blk_cell (j := 0) hxl rfl, blk_cell (j := 1) hxl rfl, blk_cell (j := 2) hxl rfl, blk_cell (j := 3) hxl rfl, blk_cell (j := 4) hxl rfl⟩
            have HG4 : Hid (EgGo w w4 eb k { k with m := k.m + 1, n := k.n + 1 } { M with I := M.I ++ [p.id] }) := H3.out.bel hbl
            clear hxl hbl h4
            refine (egLay eb { k with m := k.m + 1, n := k.n + 1 } { M with I := M.I ++ [p.id] } (some ⟨w3.heap.size, 0, none⟩) 1 [p] w4 HG4.out.1 hin (fun x hx => by rw [List.mem_singleton.1 hx]; exact HWF.out) hfar (by show k.m + 1 + 1 ≤ 900000; omega)).mono ?_
            rintro e w5 ⟨rfl, b5, hl5, hg5⟩
            have H5 : Hid (EgGo w w5 eb k { k with m := k.m + 1 + 1, n := k.n + 1, b := b5 } { M with I := M.I ++ [p.id], L := addL p M.L }) := HG4.out.trans (HG4.out.1.ofBook hg5 hl5 (Nat.le_add_right _ _))
            clear hl5 hg5 hin hfar
            go_wp2_with fail
            go_ret2
            exact ⟨_, _, rfl, ErrE.yes HO2.out.1, EgTells.none_ (HO2.out.2.trans HT.out) H5.out (by show k.m + 1 + 1 ≤ k.m + 302; omega)⟩
          · have b4 : (p.kind == 4) = false := beq_eq_false_iff_ne.2 h4
            clear hpark h3 h4
            have hxl := heap_alloc_new w3 (.cells #[.int .i64 p.id, .int .i64 p.side, .int .i64 p.kind, .int .i64 p.price, .int .i64 p.qty] 41)
            have hbl := bel1 w3 (.cells #[.int .i64 p.id, .int .i64 p.side, .int .i64 p.kind, .int .i64 p.price, .int .i64 p.qty] 41)
            go_wp2_with fail
            generalize w3.alloc (.cells #[.int .i64 p.id, .int .i64 p.side, .int .i64 p.kind, .int .i64 p.price, .int .i64 p.qty] 41) = w4 at hxl hbl ⊢
            have h4 := H3.out.1.below hbl
            have hfar : ∀ b off, some (⟨w3.heap.size, 0, none⟩ : Addr) = some ⟨b, off, none⟩ → ¬ k.b.foot k.bb b := fun b off e => by
              injection e with e
              injection e with e _ _
              rw [← e]
              exact h4.bk.farBox hxl (by decide) (by decide) (by decide) (by decide) (by decide)
            have hin : OrdsIn w4 (some ⟨w3.heap.size, 0, none⟩) [p] := fun i hi => by
              have e : i = 0 := by simp at hi; omega
              subst e
              exact ⟨w3.heap.size, 0, rfl, blk_cell (j := 0) hxl rfl, blk_cell (j := 1) hxl rfl, blk_cell (j := 2) hxl rfl, blk_cell (j := 3) hxl rfl, blk_cell (j := 4) hxl rfl⟩
            have HG4 : Hid (EgGo w w4 eb k { k with m := k.m + 1, n := k.n + 1 } { M with I := M.I ++ [p.id] }) := H3.out.bel hbl
            clear hxl hbl h4
            refine (egLay eb { k with m := k.m + 1, n := k.n + 1 } { M with I := M.I ++ [p.id] } (some ⟨w3.heap.size, 0, none⟩) 1 [p] w4 HG4.out.1 hin (fun x hx => by rw [List.mem_singleton.1 hx]; exact HWF.out) hfar (by show k.m + 1 + 1 ≤ 900000; omega)).mono ?_
            rintro e w5 ⟨rfl, b5, hl5, hg5⟩
            have H5 : Hid (EgGo w w5 eb k { k with m := k.m + 1 + 1, n := k.n + 1, b := b5 } { M with I := M.I ++ [p.id], L := addL p M.L }) := HG4.out.trans (HG4.out.1.ofBook hg5 hl5 (Nat.le_add_right _ _))
            clear hl5 hg5 hin hfar
            go_wp2_with fail
            go_ret2
            exact ⟨_, _, rfl, ErrE.yes HO2.out.1, EgTells.none_ (HO2.out.2.trans HT.out) H5.out (by show k.m + 1 + 1 ≤ k.m + 302; omega)⟩
    · have HO2 : Hid (ordN M o = refN M p ∧ ordM M o = ([], M)) := ⟨HORD.out.1, by rw [HORD.out.2, if_neg h0]⟩
      have b0 : (refN M p != 0) = true := by simpa using h0
      generalize refN M p = r at h0 b0 HO2
      have HR0 : Hid (r ≠ 0) := h0
      clear h0 HORD
      go_wp2_with fail
      go_ret2
      exact ⟨_, _, rfl, ErrE.no r HO2.out.1 HR0.out, EgTells.none_ HO2.out.2 (EgGo.stay H.out HB2.out) (Nat.le_add_right _ _)⟩
end Go.Proofs.YtjdkagafdnchhaaGreatDoor

/-
  What holds of a market's day (9.5), step by step, over plain functions and lists. Conditions stand in each theorem.
-/
namespace Go.Proofs.YtjdkagafdnchhaaGreatDoor
open Go.RowKit

/-- what holds at every step, whatever the phase -/
structure DayA (M : Mkt) (lots side : Int → Int) : Prop where
  tab : tabE M.rs = (0, -1)
  rl : M.rs.length ≤ 60
  an : 1 ≤ M.an ∧ M.an ≤ 1000000
  la : 1 ≤ M.la ∧ M.la ≤ 1000000
  sh : (0 ≤ M.st ∧ M.st ≤ 10000) ∧ (0 ≤ M.dy ∧ M.dy ≤ 10000)
  ti : 1 ≤ M.ti ∧ M.ti ≤ 1000000
  mo : 0 ≤ M.mo ∧ M.mo ≤ 10
  lo : 0 ≤ M.lo ∧ M.lo ≤ M.mo
  now : 0 ≤ M.now
  kp : Keeps lots side (M.L ++ M.P)
  idI : ∀ x ∈ M.L ++ M.P, x.id ∈ M.I
  dis : ∀ x ∈ M.L, ∀ y ∈ M.P, y.id ≠ x.id
  pP : ∀ x ∈ M.P, x.kind = 4 ∧ (Lit.int .i64 x.id).wf = true
  few : M.L.length + M.P.length ≤ 100
  lb : ∀ id, 0 ≤ lots id ∧ lots id ≤ 1000000
structure DayInv (M : Mkt) (lots side : Int → Int) (since : Int) (hands : Bool) : Prop extends DayA M lots side where
  ph : M.ph = 6 ∨ (M.ph = 4 ∧ (phaseV M.rs M.now).1 = 3) ∨ M.ph = (phaseV M.rs M.now).1
  fin : (phaseV M.rs M.now).1 = 7 → M.ph = 7
  none : M.ph = 7 → M.L = [] ∧ M.P = []
  tr : M.ph = 3 → (∀ x ∈ M.L, x.kind = 1) ∧ Apart M.L
  vol : hands = false → M.ph = 4 → since + (M.en - M.now) = (M.lo + 1) * M.ti ∧ 1 ≤ M.en - M.now
  sn : 0 ≤ since ∧ (M.ph ≠ 4 → since = 0)
/-- ticks in a volatility auction, behind a step that was none -/
def sinceN (M' : Mkt) (since : Int) : Int := if M'.ph = 4 then since else 0
section
variable {M : Mkt} {lots side : Int → Int} {since : Int} {hands : Bool}
theorem DayInv.time (h : DayInv M lots side since hands) : hands = true ∨ since < M.ti * (1 + M.mo) := by
  cases hands with
  | true => exact Or.inl rfl
  | false =>
    right
    have h1 : (M.lo + 1) * M.ti ≤ (M.mo + 1) * M.ti := Int.mul_le_mul_of_nonneg_right (by have := h.lo; omega) (by have := h.ti; omega)
    have h2 : (M.mo + 1) * M.ti = M.ti * (1 + M.mo) := by rw [Int.mul_comm, Int.add_comm M.mo 1]
    have h3 : 1 * M.ti ≤ (M.mo + 1) * M.ti := Int.mul_le_mul_of_nonneg_right (by have := h.mo; omega) (by have := h.ti; omega)
    have := h.ti
    by_cases hp : M.ph = 4
    · have := h.vol rfl hp
      omega
    · have := h.sn.2 hp
      omega
theorem DayInv.num (h : DayInv M lots side since hands) (hn : M.now ≤ 1000000000) : MNum M :=
  ⟨h.la, by have := h.few; omega, fun o ho => (h.pP o ho).2, ⟨h.now, hn⟩, by have := h.ti; omega, by have := h.lo; have := h.mo; omega, ⟨by
    have := (tab_ok h.tab).1
    exact this, h.rl⟩⟩
theorem DayInv.auct (h : DayInv M lots side since hands) (h3 : (phaseV M.rs (M.now + 1)).1 = 3) (hw : (phaseV M.rs M.now).1 ≠ 3) (h6 : M.ph ≠ 6) : auctB M.ph = true := by
  rcases phase_next h.tab h.now with e | e
  · exact absurd (e.symm.trans h3) hw
  · rw [h3] at e
    rcases fol_is e with ⟨e1, e2⟩ | ⟨e1, _⟩ | ⟨e1, e2 | e2⟩ | ⟨e1, e2⟩
    · omega
    · rcases h.ph with e3 | ⟨_, e3⟩ | e3
      · exact absurd e3 h6
      · omega
      · rw [e3, e1]; rfl
    · omega
    · omega
    · omega
theorem fills_lb {B : Int} {side : Int → Int} : ∀ {fs : List Fil} {lots : Int → Int}, FillsOk side lots fs → (∀ id, 0 ≤ lots id ∧ lots id ≤ B) → ∀ id, 0 ≤ fillsUp lots fs id ∧ fillsUp lots fs id ≤ B
  | [], _, _, h => h
  | f :: fs, lots, ⟨hf, hfs⟩, h => by
    intro id0
    refine fills_lb (fs := fs) (lots := fillUp lots f) hfs (fun id => ?_) id0
    obtain ⟨h1, h2, h3, h4, h5⟩ := hf
    have hne : f.seller ≠ f.buyer := fun e => by rw [e] at h3; omega
    have hb := h f.buyer
    have hs := h f.seller
    unfold fillUp
    by_cases e1 : id = f.seller
    · subst e1
      rw [upF_same, upF_other hne]; omega
    · rw [upF_other e1]
      by_cases e2 : id = f.buyer
      · subst e2
        rw [upF_same]; omega
      · rw [upF_other e2]; exact h id
theorem keeps_fills {side : Int → Int} {P : List Ord} : ∀ {fs : List Fil} {lots : Int → Int}, (∀ f ∈ fs, ∀ x ∈ P, x.id ≠ f.buyer ∧ x.id ≠ f.seller) → Keeps lots side P → Keeps (fillsUp lots fs) side P
  | [], _, _, h => h
  | f :: fs, lots, hn, h => keeps_fills (fs := fs) (lots := fillUp lots f) (fun g hg => hn g (List.mem_cons_of_mem _ hg)) ((h.up (fun x hx => (hn f (List.mem_cons_self ..) x hx).1)).up (fun x hx => (hn f (List.mem_cons_self ..) x hx).2))
theorem keeps_app {lots side : Int → Int} {A B : List Ord} (h1 : Keeps lots side A) (h2 : Keeps lots side B) : Keeps lots side (A ++ B) := fun x hx => (List.mem_append.1 hx).elim (h1 x) (h2 x)
end
end Go.Proofs.YtjdkagafdnchhaaGreatDoor

/-
  What holds of a market's day (9.5), at each step: Order, Cancel, Tick, Halt, Open; over plain functions and lists. Conditions stand in each theorem.
-/
namespace Go.Proofs.YtjdkagafdnchhaaGreatDoor
open Go.RowKit

theorem lieO_kind (o : Ord) : (lieO o).kind = o.kind := by unfold lieO; split <;> rfl
theorem lieO_qty (o : Ord) : (lieO o).qty = o.qty := by unfold lieO; split <;> rfl
theorem addL_mem {o x : Ord} {L : List Ord} (h : x ∈ addL o L) : x ∈ L ∨ x = lieO o := by
  unfold addL at h
  split at h
  · rcases List.mem_append.1 h with h | h
    · exact Or.inl h
    · exact Or.inr (List.mem_singleton.1 h)
  · exact Or.inl h
theorem addL_len (o : Ord) (L : List Ord) : (addL o L).length ≤ L.length + 1 := by
  unfold addL
  split
  · rw [List.length_append]; exact Nat.le_refl _
  · omega
theorem layL_mem {x : Ord} : ∀ {P L : List Ord}, x ∈ layL P L → x ∈ L ∨ ∃ o ∈ P, x = lieO o
  | [], _, h => Or.inl h
  | o :: P, L, h => by
    rcases layL_mem (P := P) (L := addL o L) h with h | ⟨q, hq, e⟩
    · rcases addL_mem h with h | h
      · exact Or.inl h
      · exact Or.inr ⟨o, List.mem_cons_self .., h⟩
    · exact Or.inr ⟨q, List.mem_cons_of_mem _ hq, e⟩
theorem layL_len : ∀ (P L : List Ord), (layL P L).length ≤ L.length + P.length
  | [], _ => Nat.le_refl _
  | o :: P, L => by
    have h1 := layL_len P (addL o L)
    have h2 := addL_len o L
    show (layL P (addL o L)).length ≤ L.length + (P.length + 1)
    omega
section
variable {M : Mkt} {lots side : Int → Int} {since : Int} {hands : Bool}
theorem sinceN_same (h : DayInv M lots side since hands) {M' : Mkt} (hp : M'.ph = M.ph) : sinceN M' since = since := by
  unfold sinceN
  rw [hp]
  by_cases e : M.ph = 4
  · rw [if_pos e]
  · rw [if_neg e, h.sn.2 e]
/-- those who wait lie: the closing auction begins, or goes on -/
theorem DayA.clos (h : DayA M lots side) (hp : (phaseV M.rs M.now).1 = 5) : DayInv (closM M) lots side 0 hands := by
  have hk : Keeps lots side (layL M.P M.L) := fun x hx => by
    rcases layL_mem hx with hx | ⟨o, ho, e⟩
    · exact h.kp x (List.mem_append_left _ hx)
    · have := h.kp o (List.mem_append_right _ ho)
      rw [e, lieO_id, lieO_side, lieO_qty]; exact this
  refine ⟨⟨h.tab, h.rl, h.an, h.la, h.sh, h.ti, h.mo, h.lo, h.now, by show Keeps lots side (layL M.P M.L ++ []); rw [List.append_nil]; exact hk, fun x hx => ?_, (fun x _ y hy => by cases hy), (fun x hx => by cases hx), ?_, h.lb⟩, Or.inr (Or.inr hp.symm), fun e => absurd e (by show ¬ (phaseV M.rs M.now).1 = 7; omega), (fun e => absurd (show (5 : Int) = 7 from e) (by decide)), (fun e => absurd (show (5 : Int) = 3 from e) (by decide)), (fun _ e => absurd (show (5 : Int) = 4 from e) (by decide)), ⟨Int.le_refl 0, fun _ => rfl⟩⟩
  · have hx' : x ∈ layL M.P M.L := by simpa [closM, layL] using hx
    rcases layL_mem hx' with hx | ⟨o, ho, e⟩
    · exact h.idI x (List.mem_append_left _ hx)
    · rw [e, lieO_id]; exact h.idI o (List.mem_append_right _ ho)
  · have h1 := layL_len M.P M.L
    have h2 := h.few
    show (layL M.P M.L).length + 0 ≤ 100
    omega
/-- an auction ends, and trading begins -/
theorem DayA.res (h : DayA M lots side) (hL : LOk M.L) (hp : (phaseV M.rs M.now).1 = 3) : FillsOk side lots (resM M).1 ∧ DayInv (resM M).2 (fillsUp lots (resM M).1) side 0 hands := by
  obtain ⟨h1, h2, h3, h4, h5⟩ := uncM_fair hL h.la (h.kp.sub (fun x hx => List.mem_append_left _ hx))
  have hpr : 0 < (wouldM M).qty → 1 ≤ (wouldM M).price ∧ (wouldM M).price ≤ 1000000 := fun hq => choose_price hL h.la hq
  have hlen : (uncM M).2.L.length ≤ M.L.length := by
    rw [uncM_is]
    show (limL (uncA M).2.L).length ≤ M.L.length
    exact Nat.le_trans (List.length_filter_le _ _) (uncA_ok hL).2
  have hP : Keeps (fillsUp lots (uncM M).1) side M.P := keeps_fills (fun f hf x hx => by
    obtain ⟨⟨a, ha, ea⟩, ⟨b, hb, eb⟩⟩ := h5 f hf
    exact ⟨by rw [← ea]; exact h.dis a ha x hx, by rw [← eb]; exact h.dis b hb x hx⟩) (h.kp.sub (fun x hx => List.mem_append_right _ hx))
  have e : (uncM M).2.rs = M.rs ∧ (uncM M).2.P = M.P ∧ (uncM M).2.I = M.I ∧ (uncM M).2.st = M.st ∧ (uncM M).2.dy = M.dy ∧ (uncM M).2.ti = M.ti ∧ (uncM M).2.mo = M.mo ∧ (uncM M).2.lo = M.lo ∧ (uncM M).2.now = M.now ∧ (1 ≤ (uncM M).2.an ∧ (uncM M).2.an ≤ 1000000) ∧ (1 ≤ (uncM M).2.la ∧ (uncM M).2.la ≤ 1000000) := by
    unfold uncM
    by_cases hq : 0 < (wouldM M).qty
    · rw [if_pos hq]; exact ⟨rfl, rfl, rfl, rfl, rfl, rfl, rfl, rfl, rfl, hpr hq, hpr hq⟩
    · rw [if_neg hq]; exact ⟨rfl, rfl, rfl, rfl, rfl, rfl, rfl, rfl, rfl, h.an, h.la⟩
  unfold resM
  generalize uncM M = um at h1 h2 h3 h4 h5 hlen hP e
  obtain ⟨fs, N⟩ := um
  dsimp only at h1 h2 h3 h4 h5 hlen hP e ⊢
  obtain ⟨e1, e2, e3, e4, e5, e6, e7, e8, e9, e10, e11⟩ := e
  refine ⟨h1, ⟨⟨by show tabE N.rs = _; rw [e1]; exact h.tab, by show N.rs.length ≤ 60; rw [e1]; exact h.rl, e10, e11, by show (0 ≤ N.st ∧ N.st ≤ 10000) ∧ (0 ≤ N.dy ∧ N.dy ≤ 10000); rw [e4, e5]; exact h.sh, by show 1 ≤ N.ti ∧ N.ti ≤ 1000000; rw [e6]; exact h.ti, by show 0 ≤ N.mo ∧ N.mo ≤ 10; rw [e7]; exact h.mo, by show 0 ≤ N.lo ∧ N.lo ≤ N.mo; rw [e8, e7]; exact h.lo, by show 0 ≤ N.now; rw [e9]; exact h.now, by show Keeps _ side (N.L ++ N.P); rw [e2]; exact keeps_app h2 hP, fun x hx => ?_, fun x hx y hy => ?_, fun x hx => h.pP x (by rw [← e2]; exact hx), by show N.L.length + N.P.length ≤ 100; rw [e2]; have := h.few; omega, fills_lb h1 h.lb⟩, Or.inr (Or.inr (by show (3 : Int) = (phaseV N.rs N.now).1; rw [e1, e9, hp])), fun e => absurd e (by show ¬ (phaseV N.rs N.now).1 = 7; rw [e1, e9, hp]; decide), (fun e => absurd (show (3 : Int) = 7 from e) (by decide)), fun _ => ⟨fun x hx => (h4 x hx).1, h3⟩, (fun _ e => absurd (show (3 : Int) = 4 from e) (by decide)), ⟨Int.le_refl 0, fun _ => rfl⟩⟩⟩
  · show x.id ∈ N.I
    rw [e3]
    rcases List.mem_append.1 hx with hx | hx
    · obtain ⟨_, y, hy, ey⟩ := h4 x hx
      rw [← ey]; exact h.idI y (List.mem_append_left _ hy)
    · exact h.idI x (List.mem_append_right _ (by rw [← e2]; exact hx))
  · obtain ⟨_, z, hz, ez⟩ := h4 x hx
    rw [← ez]; exact h.dis z hz y (by rw [← e2]; exact hy)
/-- ticks in a volatility auction, behind a tick -/
def sinceT (M M' : Mkt) (since : Int) : Int := if M'.ph = 4 then (if M.ph = 4 then since + 1 else since) else 0
theorem DayA.tick1 (h : DayA M lots side) : DayA { M with now := M.now + 1 } lots side := ⟨h.tab, h.rl, h.an, h.la, h.sh, h.ti, h.mo, h.lo, by show 0 ≤ M.now + 1; have := h.now; omega, h.kp, h.idI, h.dis, h.pP, h.few, h.lb⟩
theorem DayInv.tick (h : DayInv M lots side since hands) (hL : LOk M.L) : FillsOk side lots (tickM M).1 ∧ DayInv (tickM M).2 (fillsUp lots (tickM M).1) side (sinceT M (tickM M).2 since) hands := by
  by_cases h7 : M.ph = 7
  · have e : tickM M = ([], M) := by unfold tickM; rw [if_pos h7]
    rw [e]
    refine ⟨trivial, ?_⟩
    have e2 : sinceT M M since = since := by
      unfold sinceT
      rw [if_neg (by rw [h7]; decide), h.sn.2 (by rw [h7]; decide)]
    show DayInv M lots side (sinceT M M since) hands
    rw [e2]; exact h
  have hw7 : ¬ (phaseV M.rs M.now).1 = 7 := fun e => h7 (h.fin e)
  have hA := h.toDayA.tick1
  have e0 : tickM M = tickA (phaseV M.rs M.now).1 (phaseV M.rs (M.now + 1)).1 { M with now := M.now + 1 } := by unfold tickM; rw [if_neg h7]
  rw [e0, tickA_is]
  have hnext := phase_next h.tab h.now
  have hfive := phase_five (now := M.now) h.tab
  generalize hwas : (phaseV M.rs M.now).1 = was at hnext hw7 hfive
  generalize his : (phaseV M.rs (M.now + 1)).1 = is at hnext
  have hpv : ∀ {v : Int}, is = v → (phaseV M.rs (M.now + 1)).1 = v := fun e => his.trans e
  have hph := h.ph
  rw [hwas] at hph
  by_cases i7 : is = 7
  · rw [if_pos i7]
    have hpv7 := hpv i7
    obtain ⟨u1, _, _, _, _⟩ := uncM_fair (M := { M with now := M.now + 1 }) hL h.la (h.kp.sub (fun x hx => List.mem_append_left _ hx))
    have hpr : 0 < (wouldM { M with now := M.now + 1 }).qty → 1 ≤ (wouldM { M with now := M.now + 1 }).price ∧ (wouldM { M with now := M.now + 1 }).price ≤ 1000000 := fun hq => choose_price (L := M.L) (la := M.la) hL h.la hq
    have e : (uncM { M with now := M.now + 1 }).2.rs = M.rs ∧ (uncM { M with now := M.now + 1 }).2.I = M.I ∧ (uncM { M with now := M.now + 1 }).2.st = M.st ∧ (uncM { M with now := M.now + 1 }).2.dy = M.dy ∧ (uncM { M with now := M.now + 1 }).2.ti = M.ti ∧ (uncM { M with now := M.now + 1 }).2.mo = M.mo ∧ (uncM { M with now := M.now + 1 }).2.lo = M.lo ∧ (uncM { M with now := M.now + 1 }).2.now = M.now + 1 ∧ (1 ≤ (uncM { M with now := M.now + 1 }).2.an ∧ (uncM { M with now := M.now + 1 }).2.an ≤ 1000000) ∧ (1 ≤ (uncM { M with now := M.now + 1 }).2.la ∧ (uncM { M with now := M.now + 1 }).2.la ≤ 1000000) := by
      unfold uncM
      by_cases hq : 0 < (wouldM { M with now := M.now + 1 }).qty
      · rw [if_pos hq]; exact ⟨rfl, rfl, rfl, rfl, rfl, rfl, rfl, rfl, hpr hq, hpr hq⟩
      · rw [if_neg hq]; exact ⟨rfl, rfl, rfl, rfl, rfl, rfl, rfl, rfl, h.an, h.la⟩
    have fin7 : ∀ {N : Mkt} {lots' : Int → Int}, N.rs = M.rs → N.st = M.st → N.dy = M.dy → N.ti = M.ti → N.mo = M.mo → N.lo = M.lo → N.now = M.now + 1 → (1 ≤ N.an ∧ N.an ≤ 1000000) → (1 ≤ N.la ∧ N.la ≤ 1000000) → (∀ id, 0 ≤ lots' id ∧ lots' id ≤ 1000000) → DayInv { N with L := [], P := [], ph := 7 } lots' side (sinceT M { N with L := [], P := [], ph := 7 } since) hands := by
      intro N lots' e1 e2 e3 e4 e5 e6 e7 a1 a2 a3
      have es : sinceT M { N with L := [], P := [], ph := 7 } since = 0 := if_neg (by show ¬ (7 : Int) = 4; decide)
      rw [es]
      refine ⟨⟨by show tabE N.rs = _; rw [e1]; exact h.tab, by show N.rs.length ≤ 60; rw [e1]; exact h.rl, a1, a2, by show (0 ≤ N.st ∧ N.st ≤ 10000) ∧ (0 ≤ N.dy ∧ N.dy ≤ 10000); rw [e2, e3]; exact h.sh, by show 1 ≤ N.ti ∧ N.ti ≤ 1000000; rw [e4]; exact h.ti, by show 0 ≤ N.mo ∧ N.mo ≤ 10; rw [e5]; exact h.mo, by show 0 ≤ N.lo ∧ N.lo ≤ N.mo; rw [e6, e5]; exact h.lo, by show 0 ≤ N.now; rw [e7]; exact hA.now, (fun x hx => by cases hx), (fun x hx => by cases hx), (fun x hx => by cases hx), (fun x hx => by cases hx), Nat.zero_le _, a3⟩, Or.inr (Or.inr ?_), fun _ => rfl, fun _ => ⟨rfl, rfl⟩, (fun e => absurd (show (7 : Int) = 3 from e) (by decide)), (fun _ e => absurd (show (7 : Int) = 4 from e) (by decide)), ⟨Int.le_refl 0, fun _ => rfl⟩⟩
      show (7 : Int) = (phaseV N.rs N.now).1
      rw [e1, e7]; exact hpv7.symm
    unfold finM
    by_cases h5 : M.ph = 5
    · rw [if_pos (show ({ M with now := M.now + 1 } : Mkt).ph = 5 from h5), if_pos (show ({ M with now := M.now + 1 } : Mkt).ph = 5 from h5)]
      obtain ⟨e1, _, e3, e4, e5, e6, e7, e8, e9, e10⟩ := e
      exact ⟨u1, fin7 e1 e3 e4 e5 e6 e7 e8 e9 e10 (fills_lb u1 h.lb)⟩
    · rw [if_neg (show ¬ ({ M with now := M.now + 1 } : Mkt).ph = 5 from h5), if_neg (show ¬ ({ M with now := M.now + 1 } : Mkt).ph = 5 from h5)]
      exact ⟨trivial, fin7 rfl rfl rfl rfl rfl rfl rfl h.an h.la h.lb⟩
  rw [if_neg i7]
  by_cases h6 : M.ph = 6
  · rw [if_pos (show ({ M with now := M.now + 1 } : Mkt).ph = 6 from h6)]
    have es : sinceT M { M with now := M.now + 1 } since = 0 := if_neg (by show ¬ M.ph = 4; omega)
    refine ⟨trivial, ?_⟩
    show DayInv { M with now := M.now + 1 } lots side (sinceT M { M with now := M.now + 1 } since) hands
    rw [es]
    exact ⟨hA, Or.inl h6, fun e => absurd (his.symm.trans e) i7, fun e => absurd e h7, fun e => absurd (show M.ph = 3 from e) (by omega), fun _ e => absurd (show M.ph = 4 from e) (by omega), ⟨Int.le_refl 0, fun _ => rfl⟩⟩
  rw [if_neg (show ¬ ({ M with now := M.now + 1 } : Mkt).ph = 6 from h6)]
  by_cases hw : is = was
  · rw [if_neg (fun e => e hw)]
    by_cases h4 : M.ph = 4
    · have hw3 : was = 3 := by
        rcases hph with e | ⟨_, e⟩ | e
        · omega
        · exact e
        · omega
      by_cases he : M.en ≤ M.now + 1
      · rw [if_pos (show ({ M with now := M.now + 1 } : Mkt).ph = 4 ∧ ({ M with now := M.now + 1 } : Mkt).en ≤ ({ M with now := M.now + 1 } : Mkt).now from ⟨h4, he⟩)]
        unfold setM
        by_cases hc : (wouldM { M with now := M.now + 1 }).qty = 0 ∨ calmB ({ M with now := M.now + 1 } : Mkt).st ({ M with now := M.now + 1 } : Mkt).an (wouldM { M with now := M.now + 1 }).price = true
        · rw [if_pos hc]
          obtain ⟨r1, r2⟩ := hA.res (hands := hands) hL (hpv (by omega))
          refine ⟨r1, ?_⟩
          have es : sinceT M (resM { M with now := M.now + 1 }).2 since = 0 := if_neg (by show ¬ (3 : Int) = 4; decide)
          rw [es]; exact r2
        · rw [if_neg hc]
          by_cases hl : M.lo < M.mo
          · rw [if_pos (show ({ M with now := M.now + 1 } : Mkt).lo < ({ M with now := M.now + 1 } : Mkt).mo from hl)]
            refine ⟨trivial, ?_⟩
            show DayInv { M with now := M.now + 1, lo := M.lo + 1, en := M.now + 1 + M.ti } lots side (sinceT M { M with now := M.now + 1, lo := M.lo + 1, en := M.now + 1 + M.ti } since) hands
            have es : sinceT M { M with now := M.now + 1, lo := M.lo + 1, en := M.now + 1 + M.ti } since = since + 1 := by
              unfold sinceT
              rw [if_pos (show ({ M with now := M.now + 1, lo := M.lo + 1, en := M.now + 1 + M.ti } : Mkt).ph = 4 from h4), if_pos h4]
            rw [es]
            have hlo := h.lo
            refine ⟨⟨h.tab, h.rl, h.an, h.la, h.sh, h.ti, h.mo, by show 0 ≤ M.lo + 1 ∧ M.lo + 1 ≤ M.mo; omega, hA.now, h.kp, h.idI, h.dis, h.pP, h.few, h.lb⟩, Or.inr (Or.inl ⟨h4, hpv (by omega)⟩), fun e => absurd (his.symm.trans e) i7, fun e => absurd e h7, fun e => absurd (show M.ph = 3 from e) (by omega), fun hh _ => ?_, ⟨by have := h.sn.1; omega, fun e => absurd h4 e⟩⟩
            obtain ⟨v1, v2⟩ := h.vol hh h4
            show since + 1 + (M.now + 1 + M.ti - (M.now + 1)) = (M.lo + 1 + 1) * M.ti ∧ 1 ≤ M.now + 1 + M.ti - (M.now + 1)
            have e3 : (M.lo + 1 + 1) * M.ti = (M.lo + 1) * M.ti + M.ti := by rw [Int.add_mul (M.lo + 1) 1 M.ti, Int.one_mul]
            have := h.ti
            rw [e3]; omega
          · rw [if_neg (show ¬ ({ M with now := M.now + 1 } : Mkt).lo < ({ M with now := M.now + 1 } : Mkt).mo from hl)]
            refine ⟨trivial, ?_⟩
            show DayInv { M with now := M.now + 1, ph := 6 } lots side (sinceT M { M with now := M.now + 1, ph := 6 } since) hands
            have es : sinceT M { M with now := M.now + 1, ph := 6 } since = 0 := if_neg (by show ¬ (6 : Int) = 4; decide)
            rw [es]
            exact ⟨⟨h.tab, h.rl, h.an, h.la, h.sh, h.ti, h.mo, h.lo, hA.now, h.kp, h.idI, h.dis, h.pP, h.few, h.lb⟩, Or.inl rfl, fun e => absurd (his.symm.trans e) i7, (fun e => absurd (show (6 : Int) = 7 from e) (by decide)), (fun e => absurd (show (6 : Int) = 3 from e) (by decide)), (fun _ e => absurd (show (6 : Int) = 4 from e) (by decide)), ⟨Int.le_refl 0, fun _ => rfl⟩⟩
      · rw [if_neg (fun e => he e.2)]
        refine ⟨trivial, ?_⟩
        show DayInv { M with now := M.now + 1 } lots side (sinceT M { M with now := M.now + 1 } since) hands
        have es : sinceT M { M with now := M.now + 1 } since = since + 1 := by
          unfold sinceT
          rw [if_pos (show ({ M with now := M.now + 1 } : Mkt).ph = 4 from h4), if_pos h4]
        rw [es]
        refine ⟨hA, Or.inr (Or.inl ⟨h4, hpv (by omega)⟩), fun e => absurd (his.symm.trans e) i7, fun e => absurd e h7, fun e => absurd (show M.ph = 3 from e) (by omega), fun hh _ => ?_, ⟨by have := h.sn.1; omega, fun e => absurd h4 e⟩⟩
        obtain ⟨v1, v2⟩ := h.vol hh h4
        show since + 1 + (M.en - (M.now + 1)) = (M.lo + 1) * M.ti ∧ 1 ≤ M.en - (M.now + 1)
        rw [← v1]; omega
    · rw [if_neg (fun e => h4 e.1)]
      refine ⟨trivial, ?_⟩
      show DayInv { M with now := M.now + 1 } lots side (sinceT M { M with now := M.now + 1 } since) hands
      have es : sinceT M { M with now := M.now + 1 } since = 0 := if_neg h4
      rw [es]
      have hpw : M.ph = was := by
        rcases hph with e | ⟨e, _⟩ | e
        · omega
        · omega
        · exact e
      exact ⟨hA, Or.inr (Or.inr (show M.ph = (phaseV M.rs (M.now + 1)).1 by rw [his]; omega)), fun e => absurd (his.symm.trans e) i7, fun e => absurd e h7, h.tr, fun _ e => absurd (show M.ph = 4 from e) h4, ⟨Int.le_refl 0, fun _ => rfl⟩⟩
  · rw [if_pos hw]
    have hfol : (was = 1 ∧ is = 2) ∨ (was = 2 ∧ is = 3) ∨ (was = 3 ∧ is = 5) := by
      rcases hnext with e | e
      · exact absurd e hw
      · rcases fol_is e with ⟨e1, e2⟩ | ⟨e1, e2⟩ | ⟨e1, e2 | e2⟩ | ⟨e1, e2⟩ <;> omega
    unfold turnM
    by_cases i3 : is = 3
    · rw [if_pos i3]
      obtain ⟨r1, r2⟩ := hA.res (hands := hands) hL (hpv i3)
      refine ⟨r1, ?_⟩
      have es : sinceT M (resM { M with now := M.now + 1 }).2 since = 0 := if_neg (by show ¬ (3 : Int) = 4; decide)
      rw [es]; exact r2
    · rw [if_neg i3]
      by_cases i5 : is = 5
      · rw [if_pos i5]
        refine ⟨trivial, ?_⟩
        have es : sinceT M (closM { M with now := M.now + 1 }) since = 0 := if_neg (by show ¬ (5 : Int) = 4; decide)
        show DayInv (closM { M with now := M.now + 1 }) lots side (sinceT M (closM { M with now := M.now + 1 }) since) hands
        rw [es]
        exact hA.clos (hpv i5)
      · rw [if_neg i5]
        have i2 : is = 2 := by omega
        refine ⟨trivial, ?_⟩
        show DayInv { M with now := M.now + 1, ph := is } lots side (sinceT M { M with now := M.now + 1, ph := is } since) hands
        have es : sinceT M { M with now := M.now + 1, ph := is } since = 0 := if_neg (by show ¬ is = 4; omega)
        rw [es]
        exact ⟨⟨h.tab, h.rl, h.an, h.la, h.sh, h.ti, h.mo, h.lo, hA.now, h.kp, h.idI, h.dis, h.pP, h.few, h.lb⟩, Or.inr (Or.inr his.symm), fun e => absurd (his.symm.trans e) i7, (fun e => absurd (show is = 7 from e) i7), (fun e => absurd (show is = 3 from e) i3), (fun _ e => absurd (show is = 4 from e) (by omega)), ⟨Int.le_refl 0, fun _ => rfl⟩⟩
end
end Go.Proofs.YtjdkagafdnchhaaGreatDoor

/-
  What the program's New (9.1) returns where nothing is wrong, over this seat's translation. Conditions stand in each theorem: where the table's rows lie, and that all is such as may be.
-/
namespace Go.Proofs.YtjdkagafdnchhaaGreatDoor
open Go.RowKit

def newM (rs : List (Int × Int)) (st dy p ti mo : Int) : Mkt := ⟨rs, st, dy, p, p, ti, mo, [], [], [], 1, 0, 0, 0⟩
theorem eg_start {wf : World} {eb tb cb ct nb bb tk n : Nat} {b : BkS} {rs : List (Int × Int)} {st dy p ti mo : Int}
    (hbox : wf.heap[eb]? = some (.cells #[.pointer (some ⟨tb, 0, none⟩), .pointer (some ⟨nb, 0, none⟩), .pointer (some ⟨bb, 0, none⟩), .slice none 0 0, .map (some tk), .int .i64 1, .int .i64 0, .int .i64 ti, .int .i64 mo, .int .i64 0, .int .i64 0] 98 (0, 0)))
    (htab : wf.cell? ⟨tb, 0, none⟩ = some (.slice (some ⟨cb, 0, none⟩) rs.length ct) ∧ RowsAt wf cb 0 rs) (hbn : BnAt wf nb st dy p p) (hbk : Bk wf bb 0 b) (hl : Lnk b.S []) (htk : TkMap wf tk 0 []) (hlt : tb < n ∧ cb < n) (hn : n ≤ nb ∧ n ≤ eb ∧ n ≤ tk ∧ n ≤ wf.heap.size) (hf : ∀ j, b.foot bb j → n ≤ j) (htkf : ¬ b.foot bb tk) :
    Eg wf eb ⟨tb, cb, ct, nb, bb, 0, b, .slice none 0 0, tk, 0⟩ (newM rs st dy p ti mo) ∧ ∀ j, (⟨tb, cb, ct, nb, bb, 0, b, .slice none 0 0, tk, 0⟩ : EgK).foot eb j → n ≤ j := by
  have hall : ∀ j, (⟨tb, cb, ct, nb, bb, 0, b, .slice none 0 0, tk, 0⟩ : EgK).foot eb j → n ≤ j := fun j hj => by
    rcases hj with rfl | rfl | hj | hj | rfl
    · exact hn.2.1
    · exact hn.1
    · exact hf j hj
    · cases hj
    · exact hn.2.2.1
  refine ⟨⟨hbox, htab, Nat.lt_of_lt_of_le hlt.2 hn.2.2.2, hbn, hbk, hl, World.ownsRow_nil _ _ _ _, htk, htkf, Nat.le_refl _, fun j hj e => ?_⟩, hall⟩
  have h1 := hall j e
  rcases hj with e1 | e1
  · have e2 : j = tb := e1
    have := hlt.1
    omega
  · have e2 : j = cb := e1
    have := hlt.2
    omega
theorem tk_made (w : World) : TkMap (w.alloc (.map #[] 0)) w.heap.size 0 [] := by
  have := World.ownsMap_made (H := Unit) w Tryz.prog 3 unitR
  exact ⟨_, this, fun _ => rfl⟩
theorem bk_sz {W : World} {n n' : Nat} (e : n = n') (h : Bk W (n + 2) 0 (BkS.none_ n)) : Bk W (n' + 2) 0 (BkS.none_ n') := by subst e; exact h
/-- what New leaves -/
def NewEg (w : World) (rs : List (Int × Int)) (st dy p ti mo : Int) (e : Ending) (w' : World) : Prop := ∃ (eb : Nat) (k : EgK), e = .returned (.tuple #[.pointer (some ⟨eb, 0, none⟩), .nilIface]) ∧ Eg w' eb k (newM rs st dy p ti mo) ∧ k.m = 0 ∧ (∀ j, k.foot eb j → w.heap.size ≤ j) ∧ Below w.heap.size w w'
section
variable {w w2 w3 w4 : World} {tb cb ct : Nat} {rs : List (Int × Int)} {st dy p ti mo : Int}
theorem new_fin {wf : World} {eb bb tk : Nat} {b : BkS} (hb2 : Below w.heap.size w w2) (hb3 : Below w2.heap.size w2 w3) (hb4 : Below w3.heap.size w3 w4) (hbf : Below w4.heap.size w4 wf) (ht1 : w2.cell? ⟨tb, 0, none⟩ = some (.slice (some ⟨cb, 0, none⟩) rs.length ct)) (ht2 : RowsAt w2 cb 0 rs) (hlt : tb < w2.heap.size ∧ cb < w2.heap.size) (hbn : BnAt w3 w2.heap.size st dy p p)
    (hbk : Bk w4 bb 0 b) (hl : Lnk b.S []) (hf : ∀ j, b.foot bb j → w2.heap.size ≤ j) (htk : TkMap wf tk 0 []) (htn : w2.heap.size ≤ tk) (htf : ¬ b.foot bb tk) (hen : w2.heap.size ≤ eb)
    (hx : wf.heap[eb]? = some (.cells #[.pointer (some ⟨tb, 0, none⟩), .pointer (some ⟨w2.heap.size, 0, none⟩), .pointer (some ⟨bb, 0, none⟩), .slice none 0 0, .map (some tk), .int .i64 1, .int .i64 0, .int .i64 ti, .int .i64 mo, .int .i64 0, .int .i64 0] 98 (0, 0))) :
    NewEg w rs st dy p ti mo (.returned (.tuple #[.pointer (some ⟨eb, 0, none⟩), .nilIface])) wf := by
  have h34 := bel_then hb4 hbf
  have h24 := bel_then hb3 h34
  obtain ⟨g1, g2⟩ := eg_start (n := w2.heap.size) hx ⟨bel_cell ht1 h24, ht2.below h24 (Nat.le_refl _)⟩ (hbn.below h34) (hbk.below hbf (Nat.le_refl _)) hl htk hlt ⟨Nat.le_refl _, hen, htn, h24.size⟩ hf htf
  exact ⟨eb, _, rfl, g1, rfl, fun j hj => Nat.le_trans hb2.size (g2 j hj), bel_then hb2 h24⟩
theorem new_A (hb2 : Below w.heap.size w w2) (hb3 : Below w2.heap.size w2 w3) (hb4 : Below w3.heap.size w3 w4) (ht1 : w2.cell? ⟨tb, 0, none⟩ = some (.slice (some ⟨cb, 0, none⟩) rs.length ct)) (ht2 : RowsAt w2 cb 0 rs) (hlt : tb < w2.heap.size ∧ cb < w2.heap.size) (hbn : BnAt w3 w2.heap.size st dy p p) (hbk : Bk w4 (w3.heap.size + 2) 0 (BkS.none_ w3.heap.size)) :
    NewEg w rs st dy p ti mo (.returned (.tuple #[.pointer (some ⟨w4.heap.size + 1, 0, none⟩), .nilIface])) ((w4.alloc (.map #[] 0)).alloc (.cells #[.pointer (some ⟨tb, 0, none⟩), .pointer (some ⟨w2.heap.size, 0, none⟩), .pointer (some ⟨w3.heap.size + 2, 0, none⟩), .slice none 0 0, .map (some w4.heap.size), .int .i64 1, .int .i64 0, .int .i64 ti, .int .i64 mo, .int .i64 0, .int .i64 0] 98)) := by
  have hs3 := hb3.size
  have hs4 := hb4.size
  exact new_fin hb2 hb3 hb4 (bel2 _ _ _) ht1 ht2 hlt hbn hbk Lnk.start (fun j hj => Nat.le_trans hs3 (new_own w3 hj)) ((tk_made w4).same ((bel1 _ _).block _ (by simp))) (by omega) (fun e => by have := hbk.lt e; omega) (by omega) (two_new _ _ _)
theorem new_B (hb2 : Below w.heap.size w w2) (hb3 : Below w2.heap.size w2 w3) (hb4 : Below w3.heap.size w3 w4) (hbc : Below (w3.alloc (.map #[] 0)).heap.size (w3.alloc (.map #[] 0)) w4) (ht1 : w2.cell? ⟨tb, 0, none⟩ = some (.slice (some ⟨cb, 0, none⟩) rs.length ct)) (ht2 : RowsAt w2 cb 0 rs) (hlt : tb < w2.heap.size ∧ cb < w2.heap.size) (hbn : BnAt w3 w2.heap.size st dy p p) (hbk : Bk w4 (w3.heap.size + 1 + 2) 0 (BkS.none_ (w3.heap.size + 1))) :
    NewEg w rs st dy p ti mo (.returned (.tuple #[.pointer (some ⟨w4.heap.size, 0, none⟩), .nilIface])) (w4.alloc (.cells #[.pointer (some ⟨tb, 0, none⟩), .pointer (some ⟨w2.heap.size, 0, none⟩), .pointer (some ⟨w3.heap.size + 1 + 2, 0, none⟩), .slice none 0 0, .map (some w3.heap.size), .int .i64 1, .int .i64 0, .int .i64 ti, .int .i64 mo, .int .i64 0, .int .i64 0] 98)) := by
  have hs3 := hb3.size
  have hs4 := hb4.size
  have hno : ∀ {j : Nat}, (BkS.none_ (w3.heap.size + 1)).foot (w3.heap.size + 1 + 2) j → w3.heap.size + 1 ≤ j := fun {j} hj => by
    have e : (w3.alloc (.map #[] 0)).heap.size = w3.heap.size + 1 := by simp
    have := new_own (w3.alloc (.map #[] 0)) (k := j) (by rw [e]; exact hj)
    omega
  exact new_fin hb2 hb3 hb4 (bel1 _ _) ht1 ht2 hlt hbn hbk Lnk.start (fun j hj => by have := hno hj; omega) ((tk_made w3).same (((bel1 w4 _).block _ (by have := hbc.size; simp at this; omega)).trans (hbc.block _ (by simp)))) (by omega) (fun e => by have := hno e; omega) (by omega) (heap_alloc_new _ _)
end
set_option maxRecDepth 8000 in
set_option maxHeartbeats 4000000 in
theorem egNew_ok (tb0 off cap : Nat) (rs : List (Int × Int)) (st dy p ti mo : Int) (w : World) (h : RowsAt w tb0 off rs) (hwf : wfRows rs) (hne : 0 < rs.length) (hlen : rs.length ≤ 60) (htab : tabE rs = (0, -1)) (hok : newOk st dy p = true) (hti : 1 ≤ ti ∧ ti ≤ 1000000) (hmo : 0 ≤ mo ∧ mo ≤ 10) :
    Calls Tryz.prog 5 #[.agg #[.slice (some ⟨tb0, off, none⟩) rs.length cap, .int .i64 st, .int .i64 dy, .int .i64 p, .int .i64 ti, .int .i64 mo]] w fun e w' => NewEg w rs st dy p ti mo e w' := by
  have hmm := @run_makeMap Tryz.prog
  have HR : Hid (RowsAt w tb0 off rs) := h
  have HW : Hid (wfRows rs) := hwf
  have HT : Hid (tabE rs = (0, -1)) := htab
  have HO : Hid (newOk st dy p = true) := hok
  clear h hwf htab hok
  go_enter Tryz.func5, Tryz.ntmps5
  go_upto_region 1 with fail
  have hx := heap_alloc_new w (.cells #[.slice (some ⟨tb0, off, none⟩) rs.length cap, .int .i64 st, .int .i64 dy, .int .i64 p, .int .i64 ti, .int .i64 mo] 24)
  have hb := bel1 w (.cells #[.slice (some ⟨tb0, off, none⟩) rs.length cap, .int .i64 st, .int .i64 dy, .int .i64 p, .int .i64 ti, .int .i64 mo] 24)
  generalize w.alloc (.cells #[.slice (some ⟨tb0, off, none⟩) rs.length cap, .int .i64 st, .int .i64 dy, .int .i64 p, .int .i64 ti, .int .i64 mo] 24) = w1 at hx hb ⊢
  have c0 : w1.cell? ⟨w.heap.size, 0, none⟩ = some (.slice (some ⟨tb0, off, none⟩) rs.length cap) := blk_cell (j := 0) hx rfl
  have HX : Hid _ := hx
  have HB : Hid (Below w.heap.size w w1) := hb
  clear hx hb
  go_wp2_with fail
  refine (new_any tb0 off cap rs w1 (HR.out.below HB.out (Nat.le_refl _)) HW.out hne hlen).mono ?_
  rintro e w2 ⟨t, err, rfl, hN, hb2⟩
  rcases hN with ⟨_, rfl, tb, rfl, cb, ct, ht1, ht2⟩ | ⟨h0, _⟩
  · have hx2 := blk_below HX.out hb2 (Nat.le_refl _)
    have HB2 : Hid (Below w.heap.size w w2) := bel_then HB.out hb2
    have HT1 : Hid (w2.cell? ⟨tb, 0, none⟩ = some (.slice (some ⟨cb, 0, none⟩) rs.length ct)) := ht1
    have HT2 : Hid (RowsAt w2 cb 0 rs) := ht2
    have hcb : cb < w2.heap.size := by
      have := (ht2.row hne).1
      exact World.block_lt_of_cell? w2 _ this
    have htb : tb < w2.heap.size := World.block_lt_of_cell? w2 _ ht1
    have HLT : Hid (tb < w2.heap.size ∧ cb < w2.heap.size) := ⟨htb, hcb⟩
    have c1 : w2.cell? ⟨w.heap.size, 1, none⟩ = some (.int .i64 st) := blk_cell (j := 1) hx2 rfl
    have c2 : w2.cell? ⟨w.heap.size, 2, none⟩ = some (.int .i64 dy) := blk_cell (j := 2) hx2 rfl
    have c3 : w2.cell? ⟨w.heap.size, 3, none⟩ = some (.int .i64 p) := blk_cell (j := 3) hx2 rfl
    have HX2 : Hid _ := hx2
    clear hb2 hx2 ht1 ht2 c0 hcb htb
    go_wp2_with fail
    refine (bnNew_ok st dy p w2 HO.out).mono ?_
    rintro e w3 ⟨rfl, hb3, hbn⟩
    have hx3 := blk_below HX2.out hb3 (Nat.le_refl _)
    have HB3 : Hid (Below w2.heap.size w2 w3) := hb3
    have HBN : Hid (BnAt w3 w2.heap.size st dy p p) := hbn
    have d4 : w3.cell? ⟨w.heap.size, 4, none⟩ = some (.int .i64 ti) := blk_cell (j := 4) hx3 rfl
    have d5 : w3.cell? ⟨w.heap.size, 5, none⟩ = some (.int .i64 mo) := blk_cell (j := 5) hx3 rfl
    have HSS : Hid (∀ w', Below w3.heap.size w3 w' → w'.cell? ⟨w.heap.size, 4, none⟩ = some (.int .i64 ti) ∧ w'.cell? ⟨w.heap.size, 5, none⟩ = some (.int .i64 mo) ∧ Below w3.heap.size w3 w') := fun w' hb => ⟨blk_cell (j := 4) (blk_below hx3 hb (Nat.le_refl _)) rfl, blk_cell (j := 5) (blk_below hx3 hb (Nat.le_refl _)) rfl, hb⟩
    clear hb3 hbn hx3 c1 c2 c3
    go_upto_region 9 with fail
    clear d4 d5
    go_region_held3 (fun w' => w'.cell? ⟨w.heap.size, 4, none⟩ = some (.int .i64 ti) ∧ w'.cell? ⟨w.heap.size, 5, none⟩ = some (.int .i64 mo) ∧ Below w3.heap.size w3 w')
      ((refine HSS.out _ ?_; (repeat' first | assumption | exact HB4.out | exact Below.refl _ _ | refine Below.drew ?_ | refine Below.alloc ?_ ?_ _ | exact Nat.le_refl _ | (simp; done) | (simp; omega) | (have h9 := HB4.out.size; simp at h9 ⊢; omega))))
      ((go_at_call 36; refine (pbNew _).mono ?_; rintro e w4 ⟨rfl, hbk, hb4⟩; have HBK : Hid _ := hbk; have HB4' : Hid _ := hb4; have HB4 : Hid (Below w3.heap.size w3 w4) := (bel_then (by (repeat' first | assumption | exact Below.refl _ _ | exact Nat.le_refl _ | refine Below.drew ?_ | refine Below.alloc ?_ ?_ _ | (simp; done) | (simp; omega))) hb4); clear hbk hb4))
    all_goals go_wp2_with fail
    all_goals go_ret2
    all_goals first | exact new_A HB2.out HB3.out HB4.out HT1.out HT2.out HLT.out HBN.out HBK.out | exact new_B HB2.out HB3.out HB4.out (bel_then (Below.refl _ _).drew HB4'.out) HT1.out HT2.out HLT.out HBN.out (bk_sz (by simp) HBK.out)
  · exact absurd (by rw [HT.out]) h0
end Go.Proofs.YtjdkagafdnchhaaGreatDoor
