/-
  What the program's Choose returns, whole, over this seat's translation. Conditions stand in the theorem: where the points lie, that they are at most 1000, and that their numbers are within 2^40.
-/
import Derived.Test.YtkfmljokenclaabDoorChProg
namespace Go.Proofs.YtkfmljokenclaabDoor
open Go.RowKit

theorem apB_in {a b : Int} (ha : -1099511627776 ≤ a ∧ a ≤ 1099511627776) (hb : -1099511627776 ≤ b ∧ b ≤ 1099511627776) : -9000000000000000000 ≤ apB a b ∧ apB a b ≤ 9000000000000000000 := by
  unfold apB; omega
theorem row_ptb {w : World} {base : Nat} {t : TypeId} {v : Value} {l : List Pt} (h : w.ownsRow base t 3 v l.length (ptV l)) {k : Nat} (hk : k < l.length) :
    ∃ g cap, v = .slice (some ⟨g, 0, none⟩) l.length cap ∧ base ≤ g ∧ w.cell? ⟨g, k * 3, none⟩ = some (.int .i64 (ptAt l k).price) ∧ w.cell? ⟨g, k * 3 + 1, none⟩ = some (.int .i64 (ptAt l k).dem) ∧ w.cell? ⟨g, k * 3 + 2, none⟩ = some (.int .i64 (ptAt l k).sup) := by
  obtain ⟨g, cap, rfl, hg, _⟩ := h.form (by omega)
  obtain ⟨h1, h2, h3⟩ := ptV_at hk
  exact ⟨g, cap, rfl, hg, (h.cellAt _ (by omega)).trans h1, (h.cellAt _ (by omega)).trans h2, (h.cellAt _ (by omega)).trans h3⟩
def quoA (q : Quo) : Value := .agg #[.int .i64 q.price, .int .i64 q.qty, .int .i64 q.sur]

set_option maxRecDepth 4000 in
set_option maxHeartbeats 4000000 in
theorem prChoose (a : Option Addr) (cap : Nat) (l : List Pt) (around : Int) (w : World) (h : PtsIn w a l) (hl : l.length ≤ 1000) (hs : ∀ x ∈ l, x.Small) (ha : -1099511627776 ≤ around ∧ around ≤ 1099511627776) :
    Calls Tryd.prog 23 #[.slice a l.length cap, .int .i64 around] w fun e w' => e = .returned (.agg #[.int .i64 (chooseL l around).price, .int .i64 (chooseL l around).qty, .int .i64 (chooseL l around).sur]) ∧ Below w.heap.size w w' := by
  have HA : Hid (PtsIn w a l) := h
  have HS : Hid (∀ x ∈ l, x.Small) := hs
  have HR : Hid (-1099511627776 ≤ around ∧ around ≤ 1099511627776) := ha
  have HC : Hid (chooseL l around = chooseP l around) := (chooseP_is l around).symm
  clear h hs ha
  go_enter Tryd.func23, Tryd.ntmps23
  go_wp2_with fail
  have hq0 : QuoAt ((w.alloc (.cells #[.int .i64 around] 3)).alloc (.cells #[.int .i64 0, .int .i64 0, .int .i64 0] 48)) (w.heap.size + 1) := by
    have := heap_alloc_new (w.alloc (.cells #[.int .i64 around] 3)) (.cells #[.int .i64 0, .int .i64 0, .int .i64 0] 48)
    unfold QuoAt
    simpa using this
  have ha0 : ((w.alloc (.cells #[.int .i64 around] 3)).alloc (.cells #[.int .i64 0, .int .i64 0, .int .i64 0] 48)).cell? ⟨w.heap.size, 0, none⟩ = some (.int .i64 around) := cu_cell (cu_bel1 _ _) (cu_blk (j := 0) (heap_alloc_new w _) rfl)
  have hb0 : Below w.heap.size w ((w.alloc (.cells #[.int .i64 around] 3)).alloc (.cells #[.int .i64 0, .int .i64 0, .int .i64 0] 48)) := cu_then (cu_bel1 w _) (cu_bel1 _ _)
  generalize (w.alloc (.cells #[.int .i64 around] 3)).alloc (.cells #[.int .i64 0, .int .i64 0, .int .i64 0] 48) = W0 at hq0 ha0 hb0 ⊢
  refine (chMost a _ l _ _ trB W0 (HA.out.below hb0) hl (fnTraded l W0)).mono ?_
  rintro e w1 ⟨v1, rfl, hown, hb1⟩
  have HQ1 : Hid (QuoAt w1 (w.heap.size + 1)) := hq0.below hb1
  have HA1 : Hid (w1.cell? ⟨w.heap.size, 0, none⟩ = some (.int .i64 around)) := cu_cell hb1 ha0
  have HB1 : Hid (Below w.heap.size w w1) := cu_then hb0 hb1
  have HC1 : Hid (chooseL l around = if nothP (mostF trB l) = true then ⟨0, 0, 0⟩ else quoP (ptAt (lastP around (leastF lfP (mostF trB l))) 0)) := HC.out
  have HS1 : Hid (∀ x ∈ mostF trB l, x.Small) := fun x hx => HS.out x (mostF_mem hx)
  have hl1 : (mostF trB l).length ≤ 1000 := Nat.le_trans (mostF_len trB l) hl
  have HW1 : Hid (w1.ownsRow w.heap.size 62 3 v1 (mostF trB l).length (ptV (mostF trB l))) := owns_base hown hb0.size
  obtain ⟨ao, c1, rfl, _, _⟩ := bk_shape hown
  clear hq0 ha0 hb0 hown hb1 HS HC HA hl
  generalize mostF trB l = l1 at HC1 HS1 hl1 HW1 ⊢
  by_cases h0 : 0 < l1.length
  · have hlen : ((l1.length : Int) == 0) = false := beq_eq_false_iff_ne.2 (by omega)
    have hlt : (0 : Int) < (l1.length : Int) := by omega
    obtain ⟨g, cap1, hv, d0, d1, d2⟩ := row_pt HW1.out h0
    simp only [Value.slice.injEq, true_and] at hv
    obtain ⟨rfl, rfl⟩ := hv
    have HNO : Hid (nothP l1 = decide (trB (ptAt l1 0) < 1)) := by
      show nothP l1 = _
      unfold nothP; rw [hlen]; rfl
    rw [Nat.zero_mul] at d0
    rw [Nat.zero_mul, Nat.zero_add] at d1 d2
    generalize ptAt l1 0 = x0 at d0 d1 d2 HNO
    go_wp2_with fail
    refine (prTraded x0 _).mono ?_
    rintro e w2 ⟨rfl, hb2⟩
    have HQ2 : Hid (QuoAt w2 (w.heap.size + 1)) := HQ1.out.below hb2
    have HA2 : Hid (w2.cell? ⟨w.heap.size, 0, none⟩ = some (.int .i64 around)) := cu_cell hb2 HA1.out
    have HB2 : Hid (Below w.heap.size w w2) := cu_then HB1.out hb2
    have HW2 : Hid (w2.ownsRow w.heap.size 62 3 (.slice (some ⟨g, 0, none⟩) l1.length c1) l1.length (ptV l1)) := bk_below HW1.out hb2 (Nat.le_refl _)
    clear hb2 HQ1 HA1 HB1 HW1 d0 d1 d2
    by_cases ht : trB x0 < 1
    · have HC2 : Hid (chooseL l around = ⟨0, 0, 0⟩) := by rw [HC1.out, HNO.out, decide_eq_true ht]; rfl
      have q0 := cu_blk (j := 0) HQ2.out rfl
      have q1 := cu_blk (j := 1) HQ2.out rfl
      have q2 := cu_blk (j := 2) HQ2.out rfl
      have f0 := cu_free (j := 0) HQ2.out
      have f1 := cu_free (j := 1) HQ2.out
      have f2 := cu_free (j := 2) HQ2.out
      have hF := cu_set (j := 2) (.int .i64 0) (cu_set (j := 1) (.int .i64 0) (cu_set (j := 0) (.int .i64 0) HQ2.out))
      have HB9 : Hid (Below w.heap.size w (((w2.setCell ⟨w.heap.size + 1, 0, none⟩ (.int .i64 0)).setCell ⟨w.heap.size + 1, 1, none⟩ (.int .i64 0)).setCell ⟨w.heap.size + 1, 2, none⟩ (.int .i64 0))) := ((HB2.out.setCell (Nat.le_succ _) _).setCell (Nat.le_succ _) _).setCell (Nat.le_succ _) _
      go_wp2_with fail
      generalize ((w2.setCell ⟨w.heap.size + 1, 0, none⟩ (.int .i64 0)).setCell ⟨w.heap.size + 1, 1, none⟩ (.int .i64 0)).setCell ⟨w.heap.size + 1, 2, none⟩ (.int .i64 0) = V at hF HB9 ⊢
      have z0 := cu_blk (j := 0) hF rfl
      have z1 := cu_blk (j := 1) hF rfl
      have z2 := cu_blk (j := 2) hF rfl
      refine bodyPost_ret (by simp [results, Tryd.results23, go_sem, z0, z1, z2]; try rfl) rfl ?_
      exact ⟨by rw [HC2.out], HB9.out⟩
    · have HC2 : Hid (chooseL l around = quoP (ptAt (lastP around (leastF lfP l1)) 0)) := by rw [HC1.out, HNO.out, decide_eq_false ht]; rfl
      clear HC1 HNO
      have HLF : Hid (∀ x ∈ l1, -9000000000000000000 ≤ lfP x ∧ lfP x ≤ 9000000000000000000) := fun x hx => apB_in (HS1.out x hx).d (HS1.out x hx).s
      have HP2 : Hid (0 < (leastF lfP l1).length) := mostF_pos _ h0
      have HS2 : Hid (∀ x ∈ leastF lfP l1, x.Small) := fun x hx => HS1.out x (leastF_mem hx)
      have hl2 : (leastF lfP l1).length ≤ 1000 := Nat.le_trans (leastF_len lfP l1) hl1
      obtain ⟨aw, cw, hvw, hpts⟩ := PtsIn.of_row HW2.out
      simp only [Value.slice.injEq, true_and] at hvw
      obtain ⟨rfl, rfl⟩ := hvw
      have HL2 : Hid (∀ ca, Calls Tryd.prog 34 #[.slice (some ⟨g, 0, none⟩) l1.length ca, .func (.func 35) #[] #[]] w2 fun e w' => ∃ v', e = .returned v' ∧ w'.ownsRow w2.heap.size 62 3 v' (leastF lfP l1).length (ptV (leastF lfP l1)) ∧ Below w2.heap.size w2 w') := fun ca => chLeast _ ca l1 _ _ lfP w2 hpts hl1 (fnLeft HS1.out w2) HLF.out
      clear hpts HLF HS1
      go_wp2_with fail
      refine (HL2.out _).mono ?_
      rintro e w3 ⟨v2, rfl, hown2, hb3⟩
      have HQ3 : Hid (QuoAt w3 (w.heap.size + 1)) := HQ2.out.below hb3
      have HA3 : Hid (w3.cell? ⟨w.heap.size, 0, none⟩ = some (.int .i64 around)) := cu_cell hb3 HA2.out
      have HB3 : Hid (Below w.heap.size w w3) := cu_then HB2.out hb3
      obtain ⟨a2, c2, rfl, hpts⟩ := PtsIn.of_row hown2
      have HI : Hid (PtsIn w3 a2 (leastF lfP l1)) := hpts
      clear hown2 hb3 hpts HQ2 HA2 HB2 HW2 HL2 hl1 h0 hlen hlt ht
      generalize leastF lfP l1 = l2 at HP2 HS2 hl2 HI HC2 ⊢
      have HLA : Hid (lastP around l2 = if allP upB l2 = true then mostF Pt.price l2 else if allP downB l2 = true then leastF Pt.price l2 else leastF Pt.price (leastF (nearP around) l2)) := rfl
      have HPR : Hid (∀ x ∈ l2, -9000000000000000000 ≤ Pt.price x ∧ Pt.price x ≤ 9000000000000000000) := fun x hx => by have := (HS2.out x hx).p; omega
      have HNR : Hid (∀ x ∈ l2, -9000000000000000000 ≤ nearP around x ∧ nearP around x ≤ 9000000000000000000) := fun x hx => apB_in (HS2.out x hx).p HR.out
      go_upto_block 0 with fail
      go_cut [0] from 21 to 38 (fun v wc => wc.ownsRow w3.heap.size 62 3 v (lastP around l2).length (ptV (lastP around l2)) ∧ Below w3.heap.size w3 wc)
      case first =>
        go_wp2_with fail
        refine (chAll a2 _ l2 _ _ upB w3 HI.out hl2 (fnUp HS2.out w3)).mono ?_
        rintro e w4 ⟨rfl, hb4⟩
        have HB4 : Hid (Below w3.heap.size w3 w4) := hb4
        clear hb4
        cases hup : allP upB l2 with
        | true =>
          have HL : Hid (lastP around l2 = mostF Pt.price l2) := by rw [HLA.out, hup]; rfl
          go_wp2_with fail
          refine (chMost a2 _ l2 _ _ Pt.price w4 (HI.out.below HB4.out) hl2 (fnPrice l2 w4)).mono ?_
          rintro e w5 ⟨v5, rfl, hown5, hb5⟩
          have HO5 : Hid (w5.ownsRow w3.heap.size 62 3 v5 (lastP around l2).length (ptV (lastP around l2))) := by rw [HL.out]; exact owns_base hown5 HB4.out.size
          have HB5 : Hid (Below w3.heap.size w3 w5) := cu_then HB4.out hb5
          clear hown5 hb5
          go_wp2_with fail
          go_meet
          exact ⟨HO5.out, HB5.out⟩
        | false =>
          go_wp2_with fail
          refine (chAll a2 _ l2 _ _ downB w4 (HI.out.below HB4.out) hl2 (fnDown HS2.out w4)).mono ?_
          rintro e w5 ⟨rfl, hb5⟩
          have HB5 : Hid (Below w3.heap.size w3 w5) := cu_then HB4.out hb5
          clear hb5
          cases hdn : allP downB l2 with
          | true =>
            have HL : Hid (lastP around l2 = leastF Pt.price l2) := by rw [HLA.out, hup, hdn]; rfl
            go_wp2_with fail
            refine (chLeast a2 _ l2 _ _ Pt.price w5 (HI.out.below HB5.out) hl2 (fnPrice l2 w5) HPR.out).mono ?_
            rintro e w6 ⟨v6, rfl, hown6, hb6⟩
            have HO6 : Hid (w6.ownsRow w3.heap.size 62 3 v6 (lastP around l2).length (ptV (lastP around l2))) := by rw [HL.out]; exact owns_base hown6 HB5.out.size
            have HB6 : Hid (Below w3.heap.size w3 w6) := cu_then HB5.out hb6
            clear hown6 hb6
            go_wp2_with fail
            go_meet
            exact ⟨HO6.out, HB6.out⟩
          | false =>
            have HL : Hid (lastP around l2 = leastF Pt.price (leastF (nearP around) l2)) := by rw [HLA.out, hup, hdn]; rfl
            go_wp2_with fail
            refine (chLeast a2 _ l2 _ _ (nearP around) w5 (HI.out.below HB5.out) hl2 (fnNear HS2.out HR.out (cu_cell HB5.out HA3.out)) HNR.out).mono ?_
            rintro e w6 ⟨v6, rfl, hown6, hb6⟩
            have HB6 : Hid (Below w3.heap.size w3 w6) := cu_then HB5.out hb6
            obtain ⟨a6, c6, rfl, hpts⟩ := PtsIn.of_row hown6
            have HI6 : Hid (PtsIn w6 a6 (leastF (nearP around) l2)) := hpts
            have hl6 : (leastF (nearP around) l2).length ≤ 1000 := Nat.le_trans (leastF_len (nearP around) l2) hl2
            have HPR6 : Hid (∀ x ∈ leastF (nearP around) l2, -9000000000000000000 ≤ Pt.price x ∧ Pt.price x ≤ 9000000000000000000) := fun x hx => HPR.out x (leastF_mem hx)
            clear hown6 hb6 hpts
            generalize leastF (nearP around) l2 = l6 at HI6 hl6 HPR6 HL ⊢
            go_wp2_with fail
            refine (chLeast a6 _ l6 _ _ Pt.price w6 HI6.out hl6 (fnPrice l6 w6) HPR6.out).mono ?_
            rintro e w7 ⟨v7, rfl, hown7, hb7⟩
            have HO7 : Hid (w7.ownsRow w3.heap.size 62 3 v7 (lastP around l2).length (ptV (lastP around l2))) := by rw [HL.out]; exact owns_base hown7 HB6.out.size
            have HB7 : Hid (Below w3.heap.size w3 w7) := cu_then HB6.out hb7
            clear hown7 hb7
            go_wp2_with fail
            go_meet
            exact ⟨HO7.out, HB7.out⟩
      case rest =>
        obtain ⟨ho, hbc⟩ := hcut
        have hpos := lastP_pos around HP2.out
        have hsm := HS2.out _ (quo_in (around := around) HP2.out)
        obtain ⟨g3, cap3, rfl, hg3, d0, d1, d2⟩ := row_ptb ho hpos
        have hlt : (0 : Int) < ((lastP around l2).length : Int) := by omega
        have HQd : Hid (QuoAt wc.drew (w.heap.size + 1)) := (HQ3.out.below hbc : QuoAt wc (w.heap.size + 1))
        have hng : ¬ w.heap.size + 1 = g3 := fun e => by have := lt_of_block HQ3.out; omega
        have hng' : ¬ g3 = w.heap.size + 1 := fun e => hng e.symm
        have HBd : Hid (Below w.heap.size w wc.drew) := (cu_then HB3.out hbc).drew
        rw [Nat.zero_mul] at d0
        rw [Nat.zero_mul, Nat.zero_add] at d1 d2
        generalize (lastP around l2).length = n3 at hlt hpos ⊢
        generalize ptAt (lastP around l2) 0 = x at d0 d1 d2 HC2 hsm
        have HX : Hid x.Small := hsm
        have HC3 : Hid ((chooseL l around).price = x.price ∧ (chooseL l around).qty = trB x ∧ (chooseL l around).sur = surB x) := by rw [HC2.out]; exact ⟨rfl, rfl, rfl⟩
        clear ho hbc hsm HLA HPR HNR HI HS2 HP2 HQ3 HA3 HB3 HC2
        go_wp2_with fail
        go_region_held3 (fun w' => w'.cell? ⟨g3, 0, none⟩ = some (.int .i64 x.price) ∧ w'.cell? ⟨g3, 1, none⟩ = some (.int .i64 x.dem) ∧ w'.cell? ⟨g3, 2, none⟩ = some (.int .i64 x.sup))
          (first | go_keep | (go_split_ands; refine ⟨?_, ?_, ?_⟩ <;> (refine cu_cell hbk ?_; assumption)))
          (first | (go_at_call 33; refine (prTraded x _).mono ?_; rintro e w5 ⟨rfl, hbk⟩; have HQ5 : Hid (QuoAt w5 (w.heap.size + 1)) := HQd.out.below hbk; have HB5 : Hid (Below w.heap.size w w5) := cu_then HBd.out hbk) | (go_at_call 40; refine (prSurplus x HX.out _).mono ?_; rintro e w6 ⟨rfl, hbk⟩; have hq6 := HQ5.out.below hbk; have q0 := cu_blk (j := 0) hq6 rfl; have q1 := cu_blk (j := 1) hq6 rfl; have q2 := cu_blk (j := 2) hq6 rfl; have f0 := cu_free (j := 0) hq6; have f1 := cu_free (j := 1) hq6; have f2 := cu_free (j := 2) hq6; have HB6 : Hid (Below w.heap.size w w6) := cu_then HB5.out hbk; have HQ6 : Hid (QuoAt w6 (w.heap.size + 1)) := hq6; clear hq6))
        have hF := cu_set (j := 2) (.int .i64 (surB x)) (cu_set (j := 1) (.int .i64 (trB x)) (cu_set (j := 0) (.int .i64 x.price) HQ6.out))
        have HB9 : Hid (Below w.heap.size w (((w6.setCell ⟨w.heap.size + 1, 0, none⟩ (.int .i64 x.price)).setCell ⟨w.heap.size + 1, 1, none⟩ (.int .i64 (trB x))).setCell ⟨w.heap.size + 1, 2, none⟩ (.int .i64 (surB x)))) := ((HB6.out.setCell (Nat.le_succ _) _).setCell (Nat.le_succ _) _).setCell (Nat.le_succ _) _
        rename_i hHeld9
        clear hHeld9 q0 q1 q2 f0 f1 f2 d0 d1 d2
        generalize ((w6.setCell ⟨w.heap.size + 1, 0, none⟩ (.int .i64 x.price)).setCell ⟨w.heap.size + 1, 1, none⟩ (.int .i64 (trB x))).setCell ⟨w.heap.size + 1, 2, none⟩ (.int .i64 (surB x)) = V at hF HB9 ⊢
        have z0 := cu_blk (j := 0) hF rfl
        have z1 := cu_blk (j := 1) hF rfl
        have z2 := cu_blk (j := 2) hF rfl
        clear hF
        go_wp2_with fail
        refine bodyPost_ret (by simp [results, Tryd.results23, go_sem, z0, z1, z2]; try rfl) rfl ?_
        exact ⟨by rw [HC3.out.1, HC3.out.2.1, HC3.out.2.2], HB9.out⟩
  · have hlen : ((l1.length : Int) == 0) = true := beq_iff_eq.2 (by omega)
    have HC2 : Hid (chooseL l around = ⟨0, 0, 0⟩) := by
      show chooseL l around = _
      rw [HC1.out]
      exact if_pos (by unfold nothP; rw [hlen]; rfl)
    have q0 := cu_blk (j := 0) HQ1.out rfl
    have q1 := cu_blk (j := 1) HQ1.out rfl
    have q2 := cu_blk (j := 2) HQ1.out rfl
    have f0 := cu_free (j := 0) HQ1.out
    have f1 := cu_free (j := 1) HQ1.out
    have f2 := cu_free (j := 2) HQ1.out
    have hF := cu_set (j := 2) (.int .i64 0) (cu_set (j := 1) (.int .i64 0) (cu_set (j := 0) (.int .i64 0) HQ1.out))
    have HB9 : Hid (Below w.heap.size w (((w1.setCell ⟨w.heap.size + 1, 0, none⟩ (.int .i64 0)).setCell ⟨w.heap.size + 1, 1, none⟩ (.int .i64 0)).setCell ⟨w.heap.size + 1, 2, none⟩ (.int .i64 0))) := ((HB1.out.setCell (Nat.le_succ _) _).setCell (Nat.le_succ _) _).setCell (Nat.le_succ _) _
    go_wp2_with fail
    generalize ((w1.setCell ⟨w.heap.size + 1, 0, none⟩ (.int .i64 0)).setCell ⟨w.heap.size + 1, 1, none⟩ (.int .i64 0)).setCell ⟨w.heap.size + 1, 2, none⟩ (.int .i64 0) = V at hF HB9 ⊢
    have z0 := cu_blk (j := 0) hF rfl
    have z1 := cu_blk (j := 1) hF rfl
    have z2 := cu_blk (j := 2) hF rfl
    refine bodyPost_ret (by simp [results, Tryd.results23, go_sem, z0, z1, z2]; try rfl) rfl ?_
    exact ⟨by rw [HC2.out], HB9.out⟩
end Go.Proofs.YtkfmljokenclaabDoor
