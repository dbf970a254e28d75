/-
  What the keeper's does (9.5) returns at each step of a day: true; and the day behind it. Over this seat's translation. Conditions stand in each theorem.
-/
import Derived.Test.YtjdkagafdnchhaaGreatDoorLV
namespace Go.Proofs.YtjdkagafdnchhaaGreatDoor
open Go.RowKit Go.Maps

set_option maxRecDepth 8000 in
set_option maxHeartbeats 8000000 in
theorem drDoes (base : Nat) (c : DCfg) (d : DayK) (M : Mkt) (lots side : Int → Int) (since : Int) (hands : Bool) (what : Int) (o : Ord) (w : World) (h : Day w base c d M lots side since hands) (hI : DayInv M lots side since hands) (hb : base ≤ w.heap.size) (hm : d.k.m ≤ 500000) (hnl : d.nl ≤ 500000) (hns : d.ns ≤ 500000) (hnow : M.now ≤ 1000000) (hsn : since ≤ 500000) (hpr : 20 ≤ c.pr ∧ c.pr ≤ 1000) :
    Calls Tryz.prog 32 #[.pointer (some ⟨d.db, 0, none⟩), .agg #[.int .i64 what, .int .i64 o.id, .int .i64 o.side, .int .i64 o.kind, .int .i64 o.price, .int .i64 o.qty]] w
      fun e w' => e = .returned (.bool true) ∧ DoEnd w base c d M since w' := by
  have H : Hid (Day w base c d M lots side since hands) := h
  have HI : Hid (DayInv M lots side since hands) := hI
  clear h hI
  go_enter Tryz.func32, Tryz.ntmps32
  go_upto_region 1 with fail
  have hx := heap_alloc_new w (.cells #[.int .i64 what, .int .i64 o.id, .int .i64 o.side, .int .i64 o.kind, .int .i64 o.price, .int .i64 o.qty] 80)
  have hb1 := bel1 w (.cells #[.int .i64 what, .int .i64 o.id, .int .i64 o.side, .int .i64 o.kind, .int .i64 o.price, .int .i64 o.qty] 80)
  generalize w.alloc (.cells #[.int .i64 what, .int .i64 o.id, .int .i64 o.side, .int .i64 o.kind, .int .i64 o.price, .int .i64 o.qty] 80) = w1 at hx hb1 ⊢
  have c0 : w1.cell? ⟨d.db, 0, none⟩ = some (.pointer (some ⟨d.eb, 0, none⟩)) := blk_cell (j := 0) (H.out.below hb1).box rfl
  have HX1 : Hid (w1.heap[w.heap.size]? = some (.cells #[.int .i64 what, .int .i64 o.id, .int .i64 o.side, .int .i64 o.kind, .int .i64 o.price, .int .i64 o.qty] 80 (0, 0))) := hx
  have HB1 : Hid (Below w.heap.size w w1) := hb1
  clear hx hb1
  go_wp2_with fail
  refine (egPhase d.eb d.k M w1 (H.out.below HB1.out).eg).mono ?_
  rintro e w1' ⟨rfl, hw⟩
  subst hw
  go_wp2_with fail
  refine (egRefs d.eb d.k M w1' (H.out.below HB1.out).eg).mono ?_
  rintro e w2 ⟨rfl, hb2⟩
  have HB2 : Hid (Below w.heap.size w w2) := bel_then HB1.out hb2
  have HX2 : Hid (w2.heap[w.heap.size]? = some (.cells #[.int .i64 what, .int .i64 o.id, .int .i64 o.side, .int .i64 o.kind, .int .i64 o.price, .int .i64 o.qty] 80 (0, 0))) := blk_below HX1.out hb2 (Nat.le_refl _)
  have H2 : Hid (Day w2 base c d M lots side since hands) := H.out.below HB2.out
  have x0 : w2.cell? ⟨w.heap.size, 0, none⟩ = some (.int .i64 what) := blk_cell (j := 0) HX2.out rfl
  clear hb2 c0 HX1 HB1
  have hL := H2.out.eg.lok
  have HLK : Hid (LOk M.L) := hL
  have HF1 : Hid (M.L.length ≤ 100) := H2.out.eg.few100
  have HNUM : Hid (MNum M) := HI.out.num (by omega)
  have hb2 : base ≤ w2.heap.size := Nat.le_trans hb HB2.out.size
  have HBB : Hid (Below base w w2) := HB2.out.mono hb
  clear hL
  go_upto_block 0 with fail
  by_cases hwh : what = 0 ∨ what = 1 ∨ what = 2 ∨ what = 3 ∨ what = 4
  case neg =>
    have n0 : (what == 0) = false := beq_eq_false_iff_ne.2 (by omega)
    have n1 : (what == 1) = false := beq_eq_false_iff_ne.2 (by omega)
    have n2 : (what == 2) = false := beq_eq_false_iff_ne.2 (by omega)
    have n3 : (what == 3) = false := beq_eq_false_iff_ne.2 (by omega)
    have n4 : (what == 4) = false := beq_eq_false_iff_ne.2 (by omega)
    clear hwh
    go_wp2_with fail
    go_ret
    exact ⟨rfl, d, M, lots, side, since, hands, H2.out, HI.out, rfl, Nat.le_add_right _ _, Nat.le_add_right _ _, Nat.le_succ _, NowGo.same rfl, by omega, HBB.out⟩
  refine doSw base c d M lots side since hands what o w w2 _ _ _ _ _ _ _ _ _ _ _ _ _ _ _ _ _ _ _ _ _ _ _ _ _ _ _ _ _ _ _ _ _ _ _ _ _ _ _ _ _ _ _ _ _ _ _ _ _ _ _ _ _ _ _ _ _ _ _ _ _ _ _ _ _ _ _ _ _ _ _ _ _ _ _ _ _ _ _ _ _ _ _ _ _ _ _ _ _ _ _ _ _ _ _ _ _ _ _ _ _ _ _ _ _ _ _ _ _ _ _ _ _ _ _ _ _ _ _ _ _ _ _ _ _ _ _ _ _ _ _ _ _ _ _ _ _ _ _ _ _ _ _ _ _ _ _ _ _ _ _ _ _ _ _ _ _ _ _ _ _ _ _ _ _ _ _ _ _ _ _ _ _ _ _ _ _ _ _ _ _ _ _ _ _ _ _ _ _ _ _ _ _ _ _ _ _ _ _ _ _ _ _ _ _ _ _ _ _ _ _ _ _ _ _ _ _ _ _ _ _ _ _ _ _ _ _ _ _ _ _ _ _ _ _ _ _ _ _ _ _ _ _ _ _ _ _ _ _ _ _ _ _ _ _ _ _ _ _ _ _ _ _ _ _ _ _ _ _ _ _ _ _ _ _ _ _ _ _ _ _ _ _ _ _ _ _ _ _ _ _ _ _ _ _ _ _ _ _ _ _ _ _ _ _ _ _ _ _ _ _ _ _ _ _ _ _ _ _ _ _ _ _ _ _ _ _ _ _ _ _ _ _ _ hb hm hnl hns hnow hsn hpr H HI HB2 HX2 do_panic hwh ?_
  intro e9 e10 e11 e12 e13 e14 e36 e37 e38 e39 e40 e41 e42 e43 e44 e45 e46 e47 e48 e49 e50 e51 e52 e53 e54 e55 e56 e57 e58 e59 e60 e61 e62 e63 e64 e65 e66 e67 e68 e69 e70 e71 e72 e73 e74 e75 e76 e77 e78 e79 e80 e81 e82 e83 e84 e85 e86 e87 e88 e89 e90 e91 e92 e93 e94 e95 e96 e97 e98 e99 e100 e101 e102 e103 e104 e105 e106 e107 e108 e109 e110 e111 e112 e113 e114 e115 e116 e117 e118 e119 e120 e121 e122 e123 e124 e125 e126 e127 e128 e129 e130 e131 e132 e133 e134 e135 e136 e137 e138 e139 e140 e141 e142 e143 e144 e145 e146 e147 e148 e149 e150 wc hcut
  obtain ⟨⟨d1, M1, lots1, side1, hands1, fs, hd1, hr1, hfo, hlb, hlen, hinv, hwh, ⟨hdb, heb⟩, hk1, hnl1, hns1, hnow1, hbw⟩, hst⟩ := hcut
  obtain ⟨va, vn, rfl, _, _⟩ := owns_shape hr1
  have HLP : Hid (DoLp w base c d d1 M M1 lots1 side1 since hands1 what o (.slice va fs.length vn) fs 0 M.la wc) := ⟨d1, lots1, hd1, hr1, hfo, hlb, rfl, fun e => ⟨(hwh e).1, HI.out.la⟩, hst, hdb, heb, rfl, Nat.le_refl _, rfl, hbw⟩
  have HINV : Hid (DayInv M1 (fillsUp lots1 fs) side1 (if what = 2 then sinceT M M1 since else sinceN M1 since) hands1) := hinv
  have HWH : Hid (what = 0 → fs ≠ [] → M.ph = 3) := fun e => (hwh e).2
  have HCF : Hid (M.st = c.st ∧ M.dy = c.dy) := ⟨H.out.cfg.2.1, H.out.cfg.2.2.1⟩
  have HAN : Hid (DayInv M lots side since hands) := HI.out
  clear hd1 hr1 hfo hlb hinv hwh hbw hst H HI HB2 HX2 H2 HLK HF1 HNUM HBB hb2
  go_wp2_with fail
  go_loopw [8, 15] (fun u8 u15 wr => ∃ (i : Nat) (la : Int), u15 = .int .i64 i ∧ u8 = .int .i64 la ∧ i ≤ fs.length ∧ DoLp w base c d d1 M M1 lots1 side1 since hands1 what o (.slice va fs.length vn) fs i la wr) (fun _ u15 _ => fs.length - (intOf u15).toNat)
  case atStart => exact ⟨0, M.la, rfl, rfl, Nat.zero_le _, HLP.out⟩
  case round =>
    obtain ⟨i, la, rfl, rfl, hi, hlp⟩ := hrel
    by_cases hi1 : i < fs.length
    · have hlt : (i : Int) < (fs.length : Int) := by omega
      obtain ⟨d2, lots2, h2, hr2, hf2, hl2, hu2, hw2, hs2, e1, e2, e3, e4, e5, hb2⟩ := hlp
      obtain ⟨g, cap, ev, z0, z1, z2, z3⟩ := row_fillE hr2 hi1
      injection ev with ev1 _ ev2
      subst ev1 ev2
      rw [drop_fAt hi1] at hf2 hu2 hw2
      obtain ⟨⟨q1, q2, q3, q4, q5⟩, hf3⟩ := hf2
      generalize fAt fs i = f at z0 z1 z2 z3 q1 q2 q3 q4 q5 hf3 hu2 hw2
      have H2 : Hid (Day wr base c d2 M1 lots2 side1 since hands1) := h2
      have HR2 : Hid (wr.ownsRow w.heap.size 115 4 (.slice (some ⟨g, 0, none⟩) fs.length vn) fs.length (fV fs)) := hr2
      have HF3 : Hid (FillsOk side1 (fillUp lots2 f) (fs.drop (i + 1))) := hf3
      have HU2 : Hid (fillsUp (fillUp lots2 f) (fs.drop (i + 1)) = fillsUp lots1 fs) := hu2
      have HL2 : Hid (∀ id, 0 ≤ lots2 id ∧ lots2 id ≤ 1000000) := hl2
      have HW2 : Hid (what = 0 → (allowsB M.st M.dy M.an la f.price = true ∧ BandsOk M.st M.dy M.an f.price (fs.drop (i + 1))) ∧ 1 ≤ la ∧ la ≤ 1000000) := hw2
      have HS2 : Hid _ := hs2
      have HE : Hid (d2.db = d.db ∧ d2.eb = d.eb ∧ d2.k = d1.k ∧ d2.nl ≤ d1.nl + 2 * i ∧ d2.ns = d1.ns) := ⟨e1, e2, e3, e4, e5⟩
      have HB2 : Hid (Below base w wr) := hb2
      have HQ : Hid (1 ≤ f.qty ∧ side1 f.buyer = 1 ∧ side1 f.seller = 2 ∧ f.qty ≤ lots2 f.buyer ∧ f.qty ≤ lots2 f.seller) := ⟨q1, q2, q3, q4, q5⟩
      clear h2 hr2 hf3 hu2 hl2 hw2 hs2 e1 e2 e3 e4 e5 hb2 q1 q2 q3 q4 q5
      go_upto_region 30 with fail
      have hx := heap_alloc_new wr (.cells #[.int .i64 f.buyer, .int .i64 f.seller, .int .i64 f.price, .int .i64 f.qty] 115)
      have hb3 := bel1 wr (.cells #[.int .i64 f.buyer, .int .i64 f.seller, .int .i64 f.price, .int .i64 f.qty] 115)
      generalize wr.alloc (.cells #[.int .i64 f.buyer, .int .i64 f.seller, .int .i64 f.price, .int .i64 f.qty] 115) = w3 at hx hb3 ⊢
      have H3 : Hid (Day w3 base c d2 M1 lots2 side1 since hands1) := H2.out.below hb3
      have HX3 : Hid (w3.heap[wr.heap.size]? = some (.cells #[.int .i64 f.buyer, .int .i64 f.seller, .int .i64 f.price, .int .i64 f.qty] 115 (0, 0))) := hx
      have HB3 : Hid (Below wr.heap.size wr w3) := hb3
      have HWB : Hid ((Lit.int .i64 f.buyer).wf = true ∧ (Lit.int .i64 f.seller).wf = true) := ⟨H2.out.sw _ (by rw [HQ.out.2.1]; decide), H2.out.sw _ (by rw [HQ.out.2.2.1]; decide)⟩
      have k0 := cell_regrown (blk_cell (j := 0) (v := .int .i64 f.buyer) hx rfl)
      have k1 := cell_regrown (blk_cell (j := 1) (v := .int .i64 f.seller) hx rfl)
      have k3 := cell_regrown (blk_cell (j := 3) (v := .int .i64 f.qty) hx rfl)
      have k7 : ∀ dq os, (Go.Sort.grow (redrawn w3 dq) os).cell? ⟨d.db, 7, none⟩ = some (.map (some d2.lb)) := by rw [← HE.out.1]; exact cell_regrown (blk_cell (j := 7) (v := .map (some d2.lb)) H3.out.box rfl)
      have k8 : ∀ dq os, (Go.Sort.grow (redrawn w3 dq) os).cell? ⟨d.db, 8, none⟩ = some (.map (some d2.sb)) := by rw [← HE.out.1]; exact cell_regrown (blk_cell (j := 8) (v := .map (some d2.sb)) H3.out.box rfl)
      have lb : ∀ dq os, (Instr.lookup 83 (.map (some d2.lb)) (.int .i64 f.buyer) false).run Tryz.prog (Go.Sort.grow (redrawn w3 dq) os) = .ok (.int .i64 (lots2 f.buyer)) (Go.Sort.grow (redrawn w3 dq) os) := fun dq os => (H3.out.lo.below (below_regrown w3 dq os)).look HWB.out.1
      have ls : ∀ dq os, (Instr.lookup 83 (.map (some d2.lb)) (.int .i64 f.seller) false).run Tryz.prog (Go.Sort.grow (redrawn w3 dq) os) = .ok (.int .i64 (lots2 f.seller)) (Go.Sort.grow (redrawn w3 dq) os) := fun dq os => (H3.out.lo.below (below_regrown w3 dq os)).look HWB.out.2
      have sb : ∀ dq os, (Instr.lookup 83 (.map (some d2.sb)) (.int .i64 f.buyer) false).run Tryz.prog (Go.Sort.grow (redrawn w3 dq) os) = .ok (.int .i64 1) (Go.Sort.grow (redrawn w3 dq) os) := fun dq os => by rw [← HQ.out.2.1]; exact (H3.out.si.below (below_regrown w3 dq os)).look HWB.out.1
      have ss : ∀ dq os, (Instr.lookup 83 (.map (some d2.sb)) (.int .i64 f.seller) false).run Tryz.prog (Go.Sort.grow (redrawn w3 dq) os) = .ok (.int .i64 2) (Go.Sort.grow (redrawn w3 dq) os) := fun dq os => by rw [← HQ.out.2.2.1]; exact (H3.out.si.below (below_regrown w3 dq os)).look HWB.out.2
      have n1 : decide (f.qty < 1) = false := decide_eq_false (by have := HQ.out.1; omega)
      have n2 : decide (lots2 f.buyer < f.qty) = false := decide_eq_false (by have := HQ.out.2.2.2.1; omega)
      have n3 : decide (lots2 f.seller < f.qty) = false := decide_eq_false (by have := HQ.out.2.2.2.2; omega)
      clear hx hb3 z0 z1 z2 z3
      refine wp_region_quiet_below (by kernel_rfl) (by kernel_rfl) ?_
      repeat (go_big_quiet_step (fail))
      refine wpQuiet_nil ?_
      intro _ hw'
      obtain ⟨⟨dq, osq⟩, hw''⟩ := hw'
      subst hw''
      have hb4 := below_regrown w3 dq osq
      generalize Go.Sort.grow (redrawn w3 dq) osq = w4 at hb4 ⊢
      have H4 : Hid (Day w4 base c d2 M1 lots2 side1 since hands1) := H3.out.below hb4
      have HX4 : Hid (w4.heap[wr.heap.size]? = some (.cells #[.int .i64 f.buyer, .int .i64 f.seller, .int .i64 f.price, .int .i64 f.qty] 115 (0, 0))) := blk_below HX3.out hb4 (Nat.le_refl _)
      have HB4 : Hid (Below wr.heap.size wr w4) := bel_then HB3.out hb4
      clear hb4 H3 HX3 HB3 k0 k1 k3 k7 k8 lb ls sb ss n1 n2 n3
      go_upto_region 32 with fail
      have Hda : Hid (Day w4.drew base c d2 M1 lots2 side1 since hands1) := H4.out.below (Below.refl _ _).drew
      have hva : 0 ≤ lots2 f.buyer - f.qty ∧ lots2 f.buyer - f.qty ≤ 1000000 := by
        have a1 := HQ.out
        have a2 := HL2.out f.buyer
        
        omega
      obtain ⟨w5, rua, kua, oua⟩ := Hda.out.lo.store (id := f.buyer) (x := lots2 f.buyer - f.qty) (by show d2.nl ≤ 1000000; have := HE.out; omega) HWB.out.1 (WalkArith.wf_i64 (by omega))
      have H5 : Hid (Day w5 base c { d2 with nl := d2.nl + 1 } M1 (upF lots2 f.buyer (lots2 f.buyer - f.qty)) side1 since hands1) := Hda.out.ofLots kua oua
      have hnea : wr.heap.size ≠ d2.lb := by have := H2.out.lo.lt; omega
      have HX5 : Hid (w5.heap[wr.heap.size]? = some (.cells #[.int .i64 f.buyer, .int .i64 f.seller, .int .i64 f.price, .int .i64 f.qty] 115 (0, 0))) := blk_out (blk_below HX4.out (Below.refl _ _).drew (Nat.le_refl _)) oua hnea
      have HO5 : Hid (Out (fun j => j = d2.lb) wr w5) := out_then (out_drew (Out.of_below HB4.out (Nat.le_refl _))) oua
      have HSa : Hid (w4.drew.cell? ⟨d.db, 7, none⟩ = some (.map (some d2.lb)) ∧ w4.drew.cell? ⟨wr.heap.size, 0, none⟩ = some (.int .i64 f.buyer) ∧ w4.drew.cell? ⟨wr.heap.size, 3, none⟩ = some (.int .i64 f.qty) ∧ (Instr.lookup 83 (.map (some d2.lb)) (.int .i64 f.buyer) false).run Tryz.prog w4.drew = .ok (.int .i64 (lots2 f.buyer)) w4.drew) := by
        have hx := blk_below HX4.out (Below.refl _ _).drew (Nat.le_refl _)
        refine ⟨?_, blk_cell (j := 0) hx rfl, blk_cell (j := 3) hx rfl, Hda.out.lo.look HWB.out.1⟩
        rw [← HE.out.1]
        exact blk_cell (j := 7) (v := .map (some d2.lb)) Hda.out.box rfl
      have wra : IntKind.i64.wrap (lots2 f.buyer - f.qty) = lots2 f.buyer - f.qty := IntWalk.i64_in _ (by omega)
      clear kua oua hnea
      refine wp_region_lateM (fun _ w' => w'.cell? ⟨d.db, 7, none⟩ = some (.map (some d2.lb)) ∧ w'.cell? ⟨wr.heap.size, 0, none⟩ = some (.int .i64 f.buyer) ∧ w'.cell? ⟨wr.heap.size, 3, none⟩ = some (.int .i64 f.qty) ∧ (Instr.lookup 83 (.map (some d2.lb)) (.int .i64 f.buyer) false).run Tryz.prog w' = .ok (.int .i64 (lots2 f.buyer)) w') (fun _ i => i == 10) (by kernel_rfl) (fun _ => HSa.out) (fun hHeld => ?_)
      refine wpAnyM_take 0 (i := 0) (v := ?_) rfl (by kernel_rfl) (by kernel_rfl) (by kernel_rfl) (by kernel_rfl) (by kernel_rfl) (by first | exact fun _ _ _ h => h | exact fun _ _ _ h => HP.out _ _ _ _ (by rfl) h) (by rfl) ?_ (hHeld 0) ?_
      rotate_left
      · intro w hSw
        try simp only [lateS_zero] at hSw
        try dsimp only at hSw
        go_simp
        try rfl
      refine wpAnyM_take 0 (i := 1) (v := ?_) rfl (by kernel_rfl) (by kernel_rfl) (by kernel_rfl) (by kernel_rfl) (by kernel_rfl) (by first | exact fun _ _ _ h => h | exact fun _ _ _ h => HP.out _ _ _ _ (by rfl) h) (by rfl) ?_ (hHeld 0) ?_
      rotate_left
      · intro w hSw
        try simp only [lateS_zero] at hSw
        try dsimp only at hSw
        go_simp
        try rfl
      refine wpAnyM_take 0 (i := 2) (v := ?_) rfl (by kernel_rfl) (by kernel_rfl) (by kernel_rfl) (by kernel_rfl) (by kernel_rfl) (by first | exact fun _ _ _ h => h | exact fun _ _ _ h => HP.out _ _ _ _ (by rfl) h) (by rfl) ?_ (hHeld 0) ?_
      rotate_left
      · intro w hSw
        try simp only [lateS_zero] at hSw
        try dsimp only at hSw
        go_simp
        try rfl
      refine wpAnyM_take 0 (i := 3) (v := ?_) rfl (by kernel_rfl) (by kernel_rfl) (by kernel_rfl) (by kernel_rfl) (by kernel_rfl) (by first | exact fun _ _ _ h => h | exact fun _ _ _ h => HP.out _ _ _ _ (by rfl) h) (by rfl) ?_ (hHeld 0) ?_
      rotate_left
      · intro w hSw
        try simp only [lateS_zero] at hSw
        try dsimp only at hSw
        go_simp
        try rfl
      refine wpAnyM_take 0 (i := 4) (v := ?_) rfl (by kernel_rfl) (by kernel_rfl) (by kernel_rfl) (by kernel_rfl) (by kernel_rfl) (by first | exact fun _ _ _ h => h | exact fun _ _ _ h => HP.out _ _ _ _ (by rfl) h) (by rfl) ?_ (hHeld 0) ?_
      rotate_left
      · intro w hSw
        try simp only [lateS_zero] at hSw
        try dsimp only at hSw
        go_simp
        try rfl
      refine wpAnyM_take 0 (i := 5) (v := ?_) rfl (by kernel_rfl) (by kernel_rfl) (by kernel_rfl) (by kernel_rfl) (by kernel_rfl) (by first | exact fun _ _ _ h => h | exact fun _ _ _ h => HP.out _ _ _ _ (by rfl) h) (by rfl) ?_ (hHeld 0) ?_
      rotate_left
      · intro w hSw
        try simp only [lateS_zero] at hSw
        try dsimp only at hSw
        go_simp
        try rfl
      refine wpAnyM_take 0 (i := 7) (v := ?_) rfl (by kernel_rfl) (by kernel_rfl) (by kernel_rfl) (by kernel_rfl) (by kernel_rfl) (by first | exact fun _ _ _ h => h | exact fun _ _ _ h => HP.out _ _ _ _ (by rfl) h) (by rfl) ?_ (hHeld 0) ?_
      rotate_left
      · intro w hSw
        try simp only [lateS_zero] at hSw
        try dsimp only at hSw
        go_simp
        try rfl
      refine wpAnyM_take 0 (i := 8) (v := ?_) rfl (by kernel_rfl) (by kernel_rfl) (by kernel_rfl) (by kernel_rfl) (by kernel_rfl) (by first | exact fun _ _ _ h => h | exact fun _ _ _ h => HP.out _ _ _ _ (by rfl) h) (by rfl) ?_ (hHeld 0) ?_
      rotate_left
      · intro w hSw
        try simp only [lateS_zero] at hSw
        try dsimp only at hSw
        go_simp
        try rfl
      refine wpAnyM_take 0 (i := 6) (v := ?_) rfl (by kernel_rfl) (by kernel_rfl) (by kernel_rfl) (by kernel_rfl) (by kernel_rfl) (by first | exact fun _ _ _ h => h | exact fun _ _ _ h => HP.out _ _ _ _ (by rfl) h) (by rfl) ?_ (hHeld 0) ?_
      rotate_left
      · intro w hSw
        try simp only [lateS_zero] at hSw
        try dsimp only at hSw
        go_simp
        try rfl
      refine wpAnyM_pure (i := 9) (v := ?_) rfl (by kernel_rfl) (by kernel_rfl) (by kernel_rfl) (by kernel_rfl) (by first | exact fun _ _ _ h => h | exact fun _ _ _ h => HP.out _ _ _ _ (by rfl) h) (by rfl) ?_ ?_
      rotate_left
      · intro w
        go_simp
        try rfl
      refine wpAnyM_one (i := 10) (by kernel_rfl) rfl (fun K hK => ?_)
      go_simp
      refine hK.out _ _ (fun _ h => by cases h) ?_
      clear hK K
      refine wpAnyM_done (by kernel_rfl) ?_ _
      clear rua HSa wra Hda hva
      have HNE : Hid (f.seller ≠ f.buyer) := fun e => by
        have a1 := HQ.out.2.1
        have a2 := HQ.out.2.2.1
        rw [e, a1] at a2
        cases a2
      clear H4 HX4 HB4
      generalize hlo5 : upF lots2 f.buyer (lots2 f.buyer - f.qty) = lots5 at H5
      go_upto_region 33 with fail
      have Hdb : Hid (Day w5.drew base c { d2 with nl := d2.nl + 1 } M1 lots5 side1 since hands1) := H5.out.below (Below.refl _ _).drew
      have hvb : 0 ≤ lots5 f.seller - f.qty ∧ lots5 f.seller - f.qty ≤ 1000000 := by
        have a1 := HQ.out
        have a2 := HL2.out f.seller
        have a3 := HNE.out
        rw [← hlo5, upF_other a3]; have a4 := HL2.out f.seller; omega
      obtain ⟨w6, rub, kub, oub⟩ := Hdb.out.lo.store (id := f.seller) (x := lots5 f.seller - f.qty) (by show d2.nl + 1 ≤ 1000000; have := HE.out; omega) HWB.out.2 (WalkArith.wf_i64 (by omega))
      have H6 : Hid (Day w6 base c { d2 with nl := d2.nl + 1 + 1 } M1 (upF lots5 f.seller (lots5 f.seller - f.qty)) side1 since hands1) := Hdb.out.ofLots kub oub
      have hneb : wr.heap.size ≠ d2.lb := by have := H2.out.lo.lt; omega
      have HX6 : Hid (w6.heap[wr.heap.size]? = some (.cells #[.int .i64 f.buyer, .int .i64 f.seller, .int .i64 f.price, .int .i64 f.qty] 115 (0, 0))) := blk_out (blk_below HX5.out (Below.refl _ _).drew (Nat.le_refl _)) oub hneb
      have HO6 : Hid (Out (fun j => j = d2.lb) wr w6) := out_then (out_drew HO5.out) oub
      have HSb : Hid (w5.drew.cell? ⟨d.db, 7, none⟩ = some (.map (some d2.lb)) ∧ w5.drew.cell? ⟨wr.heap.size, 1, none⟩ = some (.int .i64 f.seller) ∧ w5.drew.cell? ⟨wr.heap.size, 3, none⟩ = some (.int .i64 f.qty) ∧ (Instr.lookup 83 (.map (some d2.lb)) (.int .i64 f.seller) false).run Tryz.prog w5.drew = .ok (.int .i64 (lots5 f.seller)) w5.drew) := by
        have hx := blk_below HX5.out (Below.refl _ _).drew (Nat.le_refl _)
        refine ⟨?_, blk_cell (j := 1) hx rfl, blk_cell (j := 3) hx rfl, Hdb.out.lo.look HWB.out.2⟩
        rw [← HE.out.1]
        exact blk_cell (j := 7) (v := .map (some d2.lb)) Hdb.out.box rfl
      have wrb : IntKind.i64.wrap (lots5 f.seller - f.qty) = lots5 f.seller - f.qty := IntWalk.i64_in _ (by omega)
      clear kub oub hneb
      refine wp_region_lateM (fun _ w' => w'.cell? ⟨d.db, 7, none⟩ = some (.map (some d2.lb)) ∧ w'.cell? ⟨wr.heap.size, 1, none⟩ = some (.int .i64 f.seller) ∧ w'.cell? ⟨wr.heap.size, 3, none⟩ = some (.int .i64 f.qty) ∧ (Instr.lookup 83 (.map (some d2.lb)) (.int .i64 f.seller) false).run Tryz.prog w' = .ok (.int .i64 (lots5 f.seller)) w') (fun _ i => i == 10) (by kernel_rfl) (fun _ => HSb.out) (fun hHeld => ?_)
      refine wpAnyM_take 0 (i := 0) (v := ?_) rfl (by kernel_rfl) (by kernel_rfl) (by kernel_rfl) (by kernel_rfl) (by kernel_rfl) (by first | exact fun _ _ _ h => h | exact fun _ _ _ h => HP.out _ _ _ _ (by rfl) h) (by rfl) ?_ (hHeld 0) ?_
      rotate_left
      · intro w hSw
        try simp only [lateS_zero] at hSw
        try dsimp only at hSw
        go_simp
        try rfl
      refine wpAnyM_take 0 (i := 1) (v := ?_) rfl (by kernel_rfl) (by kernel_rfl) (by kernel_rfl) (by kernel_rfl) (by kernel_rfl) (by first | exact fun _ _ _ h => h | exact fun _ _ _ h => HP.out _ _ _ _ (by rfl) h) (by rfl) ?_ (hHeld 0) ?_
      rotate_left
      · intro w hSw
        try simp only [lateS_zero] at hSw
        try dsimp only at hSw
        go_simp
        try rfl
      refine wpAnyM_take 0 (i := 2) (v := ?_) rfl (by kernel_rfl) (by kernel_rfl) (by kernel_rfl) (by kernel_rfl) (by kernel_rfl) (by first | exact fun _ _ _ h => h | exact fun _ _ _ h => HP.out _ _ _ _ (by rfl) h) (by rfl) ?_ (hHeld 0) ?_
      rotate_left
      · intro w hSw
        try simp only [lateS_zero] at hSw
        try dsimp only at hSw
        go_simp
        try rfl
      refine wpAnyM_take 0 (i := 3) (v := ?_) rfl (by kernel_rfl) (by kernel_rfl) (by kernel_rfl) (by kernel_rfl) (by kernel_rfl) (by first | exact fun _ _ _ h => h | exact fun _ _ _ h => HP.out _ _ _ _ (by rfl) h) (by rfl) ?_ (hHeld 0) ?_
      rotate_left
      · intro w hSw
        try simp only [lateS_zero] at hSw
        try dsimp only at hSw
        go_simp
        try rfl
      refine wpAnyM_take 0 (i := 4) (v := ?_) rfl (by kernel_rfl) (by kernel_rfl) (by kernel_rfl) (by kernel_rfl) (by kernel_rfl) (by first | exact fun _ _ _ h => h | exact fun _ _ _ h => HP.out _ _ _ _ (by rfl) h) (by rfl) ?_ (hHeld 0) ?_
      rotate_left
      · intro w hSw
        try simp only [lateS_zero] at hSw
        try dsimp only at hSw
        go_simp
        try rfl
      refine wpAnyM_take 0 (i := 5) (v := ?_) rfl (by kernel_rfl) (by kernel_rfl) (by kernel_rfl) (by kernel_rfl) (by kernel_rfl) (by first | exact fun _ _ _ h => h | exact fun _ _ _ h => HP.out _ _ _ _ (by rfl) h) (by rfl) ?_ (hHeld 0) ?_
      rotate_left
      · intro w hSw
        try simp only [lateS_zero] at hSw
        try dsimp only at hSw
        go_simp
        try rfl
      refine wpAnyM_take 0 (i := 7) (v := ?_) rfl (by kernel_rfl) (by kernel_rfl) (by kernel_rfl) (by kernel_rfl) (by kernel_rfl) (by first | exact fun _ _ _ h => h | exact fun _ _ _ h => HP.out _ _ _ _ (by rfl) h) (by rfl) ?_ (hHeld 0) ?_
      rotate_left
      · intro w hSw
        try simp only [lateS_zero] at hSw
        try dsimp only at hSw
        go_simp
        try rfl
      refine wpAnyM_take 0 (i := 8) (v := ?_) rfl (by kernel_rfl) (by kernel_rfl) (by kernel_rfl) (by kernel_rfl) (by kernel_rfl) (by first | exact fun _ _ _ h => h | exact fun _ _ _ h => HP.out _ _ _ _ (by rfl) h) (by rfl) ?_ (hHeld 0) ?_
      rotate_left
      · intro w hSw
        try simp only [lateS_zero] at hSw
        try dsimp only at hSw
        go_simp
        try rfl
      refine wpAnyM_take 0 (i := 6) (v := ?_) rfl (by kernel_rfl) (by kernel_rfl) (by kernel_rfl) (by kernel_rfl) (by kernel_rfl) (by first | exact fun _ _ _ h => h | exact fun _ _ _ h => HP.out _ _ _ _ (by rfl) h) (by rfl) ?_ (hHeld 0) ?_
      rotate_left
      · intro w hSw
        try simp only [lateS_zero] at hSw
        try dsimp only at hSw
        go_simp
        try rfl
      refine wpAnyM_pure (i := 9) (v := ?_) rfl (by kernel_rfl) (by kernel_rfl) (by kernel_rfl) (by kernel_rfl) (by first | exact fun _ _ _ h => h | exact fun _ _ _ h => HP.out _ _ _ _ (by rfl) h) (by rfl) ?_ ?_
      rotate_left
      · intro w
        go_simp
        try rfl
      refine wpAnyM_one (i := 10) (by kernel_rfl) rfl (fun K hK => ?_)
      go_simp
      refine hK.out _ _ (fun _ h => by cases h) ?_
      clear hK K
      refine wpAnyM_done (by kernel_rfl) ?_ _
      clear rub HSb wrb Hdb hvb
      have HNX : Hid (∀ w7 la', Below w6.heap.size w6 w7 → (what = 0 → la' = f.price) → DoLp w base c d d1 M M1 lots1 side1 since hands1 what o (.slice (some ⟨g, 0, none⟩) fs.length vn) fs (i + 1) la' w7) := fun w7 la' hb7 hla' => by
        have e6 : fillUp lots2 f = upF lots5 f.seller (lots5 f.seller - f.qty) := by rw [← hlo5]; rfl
        have o7 : Out (fun j => j = d2.lb) wr w7 := out_then HO6.out (Out.of_below hb7 (Nat.le_refl _))
        have a1 := HQ.out
        have a2 := HL2.out f.buyer
        have a3 := HL2.out f.seller
        refine ⟨{ d2 with nl := d2.nl + 1 + 1 }, fillUp lots2 f, by rw [e6]; exact H6.out.below hb7, owns_out HR2.out o7 (fun j hj e => ?_), HF3.out, fun id => ?_, HU2.out, fun e => by rw [hla' e]; exact ⟨(HW2.out e).1.2, allows_in (HW2.out e).1.1 HAN.out.an HAN.out.sh.1⟩, blk_out HS2.out o7 (fun e => H2.out.lo.ne HS2.out e.symm), HE.out.1, HE.out.2.1, HE.out.2.2.1, by have := HE.out; show d2.nl + 1 + 1 ≤ d1.nl + 2 * (i + 1); omega, HE.out.2.2.2.2, HB2.out.trans (H2.out.mine o7 (fun j e => by rw [show j = d2.lb from e]; exact H2.out.own _ (Or.inr (Or.inr (Or.inl rfl)))) (Nat.le_trans hb HB2.out.size))⟩
        · rcases HR2.out.2 with ⟨hn, _⟩ | ⟨g', cap', cur, hv, _, hh, _⟩
          · cases hn
          · injection hv with hv _ _
            injection hv with hv
            injection hv with hv _ _
            subst hv
            have ej : some g = some j := hj
            injection ej with ej
            exact H2.out.lo.ne hh (by rw [ej]; exact (show j = d2.lb from e).symm)
        · rw [e6]
          by_cases e : id = f.seller
          · rw [e, upF_same, ← hlo5, upF_other HNE.out]; omega
          · rw [upF_other e, ← hlo5]
            by_cases e' : id = f.buyer
            · rw [e', upF_same]; omega
            · rw [upF_other e']; exact HL2.out id
      have HT6 : Hid (w6.heap[w.heap.size]? = some (.cells #[.int .i64 what, .int .i64 o.id, .int .i64 o.side, .int .i64 o.kind, .int .i64 o.price, .int .i64 o.qty] 80 (0, 0))) := blk_out HS2.out HO6.out (fun e => H2.out.lo.ne HS2.out e.symm)
      have x00 : w6.cell? ⟨w.heap.size, 0, none⟩ = some (.int .i64 what) := blk_cell (j := 0) HT6.out rfl
      have x02 : w6.cell? ⟨wr.heap.size, 2, none⟩ = some (.int .i64 f.price) := blk_cell (j := 2) HX6.out rfl
      clear H5 HX5 HO5 hlo5
      by_cases e0 : what = 0
      · have n0 : (what == 0) = true := beq_iff_eq.2 e0
        have HW0 : Hid (allowsB M.st M.dy M.an la f.price = true ∧ 1 ≤ la ∧ la ≤ 1000000) := ⟨(HW2.out e0).1.1, (HW2.out e0).2⟩
        have c2 : w6.cell? ⟨d.db, 2, none⟩ = some (.int .i64 c.st) := by rw [← HE.out.1]; exact blk_cell (j := 2) H6.out.box rfl
        have c3 : w6.cell? ⟨d.db, 3, none⟩ = some (.int .i64 c.dy) := by rw [← HE.out.1]; exact blk_cell (j := 3) H6.out.box rfl
        clear e0
        go_upto_region 35 with fail
        refine wp_region_lateM (fun _ w' => w'.cell? ⟨d.db, 2, none⟩ = some (.int .i64 c.st) ∧ w'.cell? ⟨d.db, 3, none⟩ = some (.int .i64 c.dy)) (fun _ i => i == 14) (by kernel_rfl) (fun _ => ⟨c2, c3⟩) (fun hHeld => ?_)
        refine wpAnyM_pure (i := 0) (v := ?_) rfl (by kernel_rfl) (by kernel_rfl) (by kernel_rfl) (by kernel_rfl) (by first | exact fun _ _ _ h => h | exact fun _ _ _ h => HP.out _ _ _ _ (by rfl) h) (by rfl) ?_ ?_
        rotate_left
        · intro w
          go_simp
          try rfl
        refine wpAnyM_pure (i := 1) (v := ?_) rfl (by kernel_rfl) (by kernel_rfl) (by kernel_rfl) (by kernel_rfl) (by first | exact fun _ _ _ h => h | exact fun _ _ _ h => HP.out _ _ _ _ (by rfl) h) (by rfl) ?_ ?_
        rotate_left
        · intro w
          go_simp
          try rfl
        refine wpAnyM_pure (i := 2) (v := ?_) rfl (by kernel_rfl) (by kernel_rfl) (by kernel_rfl) (by kernel_rfl) (by first | exact fun _ _ _ h => h | exact fun _ _ _ h => HP.out _ _ _ _ (by rfl) h) (by rfl) ?_ ?_
        rotate_left
        · intro w
          go_simp
          try rfl
        refine wpAnyM_pure (i := 3) (v := ?_) rfl (by kernel_rfl) (by kernel_rfl) (by kernel_rfl) (by kernel_rfl) (by first | exact fun _ _ _ h => h | exact fun _ _ _ h => HP.out _ _ _ _ (by rfl) h) (by rfl) ?_ ?_
        rotate_left
        · intro w
          go_simp
          try rfl
        refine wpAnyM_pure (i := 4) (v := ?_) rfl (by kernel_rfl) (by kernel_rfl) (by kernel_rfl) (by kernel_rfl) (by first | exact fun _ _ _ h => h | exact fun _ _ _ h => HP.out _ _ _ _ (by rfl) h) (by rfl) ?_ ?_
        rotate_left
        · intro w
          go_simp
          try rfl
        refine wpAnyM_pure (i := 7) (v := ?_) rfl (by kernel_rfl) (by kernel_rfl) (by kernel_rfl) (by kernel_rfl) (by first | exact fun _ _ _ h => h | exact fun _ _ _ h => HP.out _ _ _ _ (by rfl) h) (by rfl) ?_ ?_
        rotate_left
        · intro w
          go_simp
          try rfl
        refine wpAnyM_pure (i := 8) (v := ?_) rfl (by kernel_rfl) (by kernel_rfl) (by kernel_rfl) (by kernel_rfl) (by first | exact fun _ _ _ h => h | exact fun _ _ _ h => HP.out _ _ _ _ (by rfl) h) (by rfl) ?_ ?_
        rotate_left
        · intro w
          go_simp
          try rfl
        refine wpAnyM_pure (i := 9) (v := ?_) rfl (by kernel_rfl) (by kernel_rfl) (by kernel_rfl) (by kernel_rfl) (by first | exact fun _ _ _ h => h | exact fun _ _ _ h => HP.out _ _ _ _ (by rfl) h) (by rfl) ?_ ?_
        rotate_left
        · intro w
          go_simp
          try rfl
        refine wpAnyM_pure (i := 10) (v := ?_) rfl (by kernel_rfl) (by kernel_rfl) (by kernel_rfl) (by kernel_rfl) (by first | exact fun _ _ _ h => h | exact fun _ _ _ h => HP.out _ _ _ _ (by rfl) h) (by rfl) ?_ ?_
        rotate_left
        · intro w
          go_simp
          try rfl
        refine wpAnyM_pure (i := 11) (v := ?_) rfl (by kernel_rfl) (by kernel_rfl) (by kernel_rfl) (by kernel_rfl) (by first | exact fun _ _ _ h => h | exact fun _ _ _ h => HP.out _ _ _ _ (by rfl) h) (by rfl) ?_ ?_
        rotate_left
        · intro w
          go_simp
          try rfl
        refine wpAnyM_pure (i := 16) (v := ?_) rfl (by kernel_rfl) (by kernel_rfl) (by kernel_rfl) (by kernel_rfl) (by first | exact fun _ _ _ h => h | exact fun _ _ _ h => HP.out _ _ _ _ (by rfl) h) (by rfl) ?_ ?_
        rotate_left
        · intro w
          go_simp
          try rfl
        refine wpAnyM_take 0 (i := 5) (v := ?_) rfl (by kernel_rfl) (by kernel_rfl) (by kernel_rfl) (by kernel_rfl) (by kernel_rfl) (by first | exact fun _ _ _ h => h | exact fun _ _ _ h => HP.out _ _ _ _ (by rfl) h) (by rfl) ?_ (hHeld 0) ?_
        rotate_left
        · intro w hSw
          try simp only [lateS_zero] at hSw
          try dsimp only at hSw
          go_simp
          try rfl
        refine wpAnyM_take 0 (i := 12) (v := ?_) rfl (by kernel_rfl) (by kernel_rfl) (by kernel_rfl) (by kernel_rfl) (by kernel_rfl) (by first | exact fun _ _ _ h => h | exact fun _ _ _ h => HP.out _ _ _ _ (by rfl) h) (by rfl) ?_ (hHeld 0) ?_
        rotate_left
        · intro w hSw
          try simp only [lateS_zero] at hSw
          try dsimp only at hSw
          go_simp
          try rfl
        refine wpAnyM_pure (i := 6) (v := ?_) rfl (by kernel_rfl) (by kernel_rfl) (by kernel_rfl) (by kernel_rfl) (by first | exact fun _ _ _ h => h | exact fun _ _ _ h => HP.out _ _ _ _ (by rfl) h) (by rfl) ?_ ?_
        rotate_left
        · intro w
          go_simp
          try rfl
        refine wpAnyM_pure (i := 13) (v := ?_) rfl (by kernel_rfl) (by kernel_rfl) (by kernel_rfl) (by kernel_rfl) (by first | exact fun _ _ _ h => h | exact fun _ _ _ h => HP.out _ _ _ _ (by rfl) h) (by rfl) ?_ ?_
        rotate_left
        · intro w
          go_simp
          try rfl
        refine wpAnyM_one (i := 14) (by kernel_rfl) rfl (fun K hK => ?_)
        go_simp
        refine hK.out _ _ (fun _ h => by cases h) ?_
        clear hK K
        refine wpAnyM_pure (i := 15) (v := ?_) rfl (by kernel_rfl) (by kernel_rfl) (by kernel_rfl) (by kernel_rfl) (by first | exact fun _ _ _ h => h | exact fun _ _ _ h => HP.out _ _ _ _ (by rfl) h) (by rfl) ?_ ?_
        rotate_left
        · intro w
          go_simp
          try rfl
        refine wpAnyM_done (by kernel_rfl) ?_ _
        have hx7 := blk_below (heap_alloc_new w6 (.cells #[.int .i64 M.an, .int .i64 c.st, .int .i64 la, .int .i64 c.dy] 134)) (Below.refl _ _).drew (Nat.le_refl _)
        have hb7 : Below w6.heap.size w6 (w6.alloc (.cells #[.int .i64 M.an, .int .i64 c.st, .int .i64 la, .int .i64 c.dy] 134)).drew := (bel1 w6 _).drew
        generalize (w6.alloc (.cells #[.int .i64 M.an, .int .i64 c.st, .int .i64 la, .int .i64 c.dy] 134)).drew = w7 at hx7 hb7 ⊢
        have HX7 : Hid (w7.heap[w6.heap.size]? = some (.cells #[.int .i64 M.an, .int .i64 c.st, .int .i64 la, .int .i64 c.dy] 134 (0, 0))) := hx7
        have HB7 : Hid (Below w6.heap.size w6 w7) := hb7
        have HPS : Hid ((∀ k : Nat, k < 2 → ∀ w' : World, Below w7.heap.size w7 w' → ∃ p s : Int, bandOk p s = true ∧ (bandL p s ≤ f.price ∧ f.price ≤ bandH p s) ∧ w'.cell? ⟨w6.heap.size, k * 2, none⟩ = some (.int .i64 p) ∧ w'.cell? ⟨w6.heap.size, k * 2 + 1, none⟩ = some (.int .i64 s))) := fun k hk w' hb' => by
          have hx := blk_below hx7 hb' (Nat.le_refl _)
          have ha := HW0.out.1
          unfold allowsB at ha
          rw [Bool.and_eq_true] at ha
          have h1 := inB_true ha.1
          have h2 := inB_true ha.2
          have hk' : k = 0 ∨ k = 1 := by omega
          rcases hk' with rfl | rfl
          · exact ⟨M.an, c.st, by rw [← HCF.out.1]; exact band_yes HAN.out.an HAN.out.sh.1, by rw [← HCF.out.1]; exact h1, blk_cell (j := 0) hx rfl, blk_cell (j := 1) hx rfl⟩
          · exact ⟨la, c.dy, by rw [← HCF.out.2]; exact band_yes HW0.out.2 HAN.out.sh.2, by rw [← HCF.out.2]; exact h2, blk_cell (j := 2) hx rfl, blk_cell (j := 3) hx rfl⟩
        clear hx7 hb7 c2 c3 x00 x02
        go_wp2_with fail
        go_loopw [247] (fun u wk => ∃ k : Nat, u = .int .i64 k ∧ k ≤ 2 ∧ Below w7.heap.size w7 wk) (fun u _ => 2 - (intOf u).toNat)
        case atStart => exact ⟨0, rfl, by omega, Below.refl _ _⟩
        case round =>
          obtain ⟨k, rfl, hk, hbk⟩ := hrel
          have HBK : Hid (Below w7.heap.size w7 wr) := hbk
          by_cases hk2 : k < 2
          · have hlt2 : (k : Int) < 2 := by omega
            obtain ⟨p, s, hok, hin, y0, y1⟩ := HPS.out k hk2 _ hbk
            have HOK : Hid (bandOk p s = true) := hok
            have b1 : decide (f.price < bandL p s) = false := decide_eq_false (by omega)
            have b2 : decide (bandH p s < f.price) = false := decide_eq_false (by omega)
            clear hok hin hbk
            go_upto_region 38 with fail
            have hx8 := heap_alloc_new wr (.cells #[.int .i64 p, .int .i64 s] 134)
            have hb8 := bel1 wr (.cells #[.int .i64 p, .int .i64 s] 134)
            generalize wr.alloc (.cells #[.int .i64 p, .int .i64 s] 134) = w8 at hx8 hb8 ⊢
            have q0 : w8.cell? ⟨wr.heap.size, 0, none⟩ = some (.int .i64 p) := blk_cell (j := 0) hx8 rfl
            have q1 : w8.cell? ⟨wr.heap.size, 1, none⟩ = some (.int .i64 s) := blk_cell (j := 1) hx8 rfl
            have HB8 : Hid (Below w7.heap.size w7 w8) := bel_then HBK.out hb8
            clear hx8 hb8 y0 y1
            go_wp2_with fail
            refine (Band_is p s w8).mono ?_
            rintro e w9 ⟨rfl, hb9⟩
            rw [bandEV_ok HOK.out]
            have HB9 : Hid (Below w7.heap.size w7 w9) := bel_then HB8.out hb9
            have x02 := blk_cell (j := 2) (v := .int .i64 f.price) (blk_below (blk_below HX6.out HB7.out (Nat.le_refl _)) HB9.out (Nat.le_refl _)) rfl
            clear hb9 q0 q1
            go_wp2_with fail
            go_roundw
            case rel => exact ⟨k + 1, by go_num, by omega, HB9.out⟩
            case measure => first | (simp [RowKit.intOf]; omega) | (show 2 - (k + 1) < 2 - k; omega) | omega
          · have hge2 : ¬ (k : Int) < 2 := by omega
            have x02 := blk_cell (j := 2) (v := .int .i64 f.price) (blk_below (blk_below HX6.out HB7.out (Nat.le_refl _)) hbk (Nat.le_refl _)) rfl
            have HNY : Hid (DoLp w base c d d1 M M1 lots1 side1 since hands1 what o (.slice (some ⟨g, 0, none⟩) fs.length vn) fs (i + 1) f.price wr) := HNX.out wr f.price (bel_then HB7.out hbk) (fun _ => rfl)
            clear hbk HBK
            go_wp2_with fail
            go_roundw
            case rel => exact ⟨i + 1, f.price, by go_num, rfl, hi1, HNY.out⟩
            case measure => first | (simp [RowKit.intOf]; omega) | (show fs.length - (i + 1) < fs.length - i; omega) | omega
      · have n0 : (what == 0) = false := beq_eq_false_iff_ne.2 e0
        have HX0 : Hid (∀ w7, Below w6.heap.size w6 w7 → DoLp w base c d d1 M M1 lots1 side1 since hands1 what o (.slice (some ⟨g, 0, none⟩) fs.length vn) fs (i + 1) la w7) := fun w7 h => HNX.out w7 la h (fun e => absurd e e0)
        clear e0
        go_wp2_with fail
        go_roundw
        case rel => exact ⟨i + 1, la, by go_num, rfl, hi1, HX0.out _ (Below.refl _ _)⟩
        case measure => first | (simp [RowKit.intOf]; omega) | (show fs.length - (i + 1) < fs.length - i; omega) | omega
    · obtain rfl : i = fs.length := by omega
      have hge : ¬ ((fs.length : Nat) : Int) < ((fs.length : Nat) : Int) := by omega
      obtain ⟨d2, lots2, h2, _, _, _, hu2, _, hs2, e1, e2, e3, e4, e5, hb2⟩ := hlp
      rw [List.drop_length] at hu2
      have el : lots2 = fillsUp lots1 fs := hu2
      subst el
      have HD : Hid (Day wr base c d2 M1 (fillsUp lots1 fs) side1 since hands1) := h2
      have HT : Hid (wr.heap[w.heap.size]? = some (.cells #[.int .i64 what, .int .i64 o.id, .int .i64 o.side, .int .i64 o.kind, .int .i64 o.price, .int .i64 o.qty] 80 (0, 0))) := hs2
      have HE : Hid (d2.db = d.db ∧ d2.eb = d.eb ∧ d2.k.m ≤ d.k.m + 302 ∧ d2.nl ≤ d.nl + 210 ∧ d2.ns ≤ d.ns + 1) := ⟨e1, e2, by rw [e3]; exact hk1, by omega, by omega⟩
      have HBW : Hid (Below base w wr) := hb2
      have x00 : wr.cell? ⟨w.heap.size, 0, none⟩ = some (.int .i64 what) := blk_cell (j := 0) hs2 rfl
      clear h2 hu2 hs2 e1 e2 e3 e4 e5 hb2
      go_upto_region 43 with fail
      go_cut [288] from 277 to 287 (fun u wc => u = .bool false ∧ wc = wr)
      case first =>
        by_cases h0 : what = 0
        · have n0 : (what == 0) = true := beq_iff_eq.2 h0
          by_cases hf : fs = []
          · have hl0 : (fs.length : Int) ≤ 0 := by rw [hf]; decide
            clear h0 hf
            go_wp2_with fail
            all_goals first | (exfalso; omega) | (go_meet; exact ⟨rfl, rfl⟩)
          · have n1 : (M.ph != 3) = false := by rw [HWH.out h0 hf]; rfl
            have hl1 : (1 : Int) ≤ (fs.length : Int) := by have := List.length_pos_iff.2 hf; omega
            clear h0 hf
            go_wp2_with fail
            all_goals first | (exfalso; omega) | (go_meet; exact ⟨rfl, rfl⟩)
        · have n0 : (what == 0) = false := beq_eq_false_iff_ne.2 h0
          clear h0
          go_wp2_with fail
          go_meet
          exact ⟨rfl, rfl⟩
      case rest =>
        obtain ⟨rfl, hw⟩ := hcut
        subst hw
        go_wp2_with fail
        refine (egPhase d.eb d2.k M1 _ (by rw [← HE.out.2.1]; exact HD.out.eg)).mono ?_
        rintro e w5 ⟨rfl, hw⟩
        subst hw
        go_upto_region 46 with fail
        go_cut [297] from 291 to 296 (fun u wc => u = .bool false ∧ Below w5.heap.size w5 wc)
        case first =>
          by_cases h3 : M1.ph = 3
          · have n3 : (M1.ph == 3) = true := beq_iff_eq.2 h3
            have HTR : Hid ((∀ x ∈ M1.L, x.kind = 1) ∧ Apart M1.L) := HINV.out.tr h3
            clear h3
            go_wp2_with fail
            rw [← HE.out.1]
            refine (drApart base c d2 M1 (fillsUp lots1 fs) side1 since hands1 w5 HD.out (HINV.out.kp.sub (fun x hx => List.mem_append_left _ hx)) HTR.out.1 HTR.out.2).mono ?_
            rintro e w6 ⟨rfl, hb6⟩
            rw [HE.out.1]
            have HB6 : Hid (Below w5.heap.size w5 w6) := hb6
            clear hb6
            go_wp2_with fail
            go_meet
            exact ⟨rfl, HB6.out⟩
          · have n3 : (M1.ph == 3) = false := beq_eq_false_iff_ne.2 h3
            clear h3
            go_wp2_with fail
            go_meet
            exact ⟨rfl, Below.refl _ _⟩
        case rest =>
          obtain ⟨rfl, hb6⟩ := hcut
          have HD6 : Hid (Day wc base c d2 M1 (fillsUp lots1 fs) side1 since hands1) := HD.out.below hb6
          have HT6 : Hid (wc.heap[w.heap.size]? = some (.cells #[.int .i64 what, .int .i64 o.id, .int .i64 o.side, .int .i64 o.kind, .int .i64 o.price, .int .i64 o.qty] 80 (0, 0))) := blk_below HT.out hb6 (Nat.le_refl _)
          have HB6 : Hid (Below base w wc) := HBW.out.trans (hb6.mono (Nat.le_trans hb HBW.out.size))
          have x06 : wc.cell? ⟨w.heap.size, 0, none⟩ = some (.int .i64 what) := blk_cell (j := 0) HT6.out rfl
          clear hb6 x00
          obtain ⟨b, eb⟩ : ∃ b : Bool, b = decide (what = 2 ∧ M.ph = 4) := ⟨_, rfl⟩
          have HBD : Hid (b = decide (what = 2 ∧ M.ph = 4)) := eb
          clear eb
          go_upto_region 48 with fail
          go_cut [304] from 298 to 303 (fun u wd => u = .bool b ∧ wd = wc)
          case first =>
            by_cases h2 : what = 2
            · have n2 : (what == 2) = true := beq_iff_eq.2 h2
              by_cases h4 : M.ph = 4
              · have n4 : (M.ph == 4) = true := beq_iff_eq.2 h4
                have HT2 : Hid (b = true) := by show _ = _; rw [HBD.out]; exact decide_eq_true ⟨h2, h4⟩
                clear h2 h4
                go_wp2_with fail
                go_meet
                exact ⟨by rw [HT2.out], rfl⟩
              · have n4 : (M.ph == 4) = false := beq_eq_false_iff_ne.2 h4
                have HT2 : Hid (b = false) := by show _ = _; rw [HBD.out]; exact decide_eq_false (fun e => h4 e.2)
                clear h2 h4
                go_wp2_with fail
                go_meet
                exact ⟨by rw [HT2.out], rfl⟩
            · have n2 : (what == 2) = false := beq_eq_false_iff_ne.2 h2
              have HT2 : Hid (b = false) := by show _ = _; rw [HBD.out]; exact decide_eq_false (fun e => h2 e.1)
              clear h2
              go_wp2_with fail
              go_meet
              exact ⟨by rw [HT2.out], rfl⟩
          case rest =>
            obtain ⟨rfl, hw⟩ := hcut
            subst hw
            obtain ⟨s1, es1⟩ : ∃ s1 : Int, s1 = if b = true then since + 1 else since := ⟨_, rfl⟩
            have HS1 : Hid (s1 = if b = true then since + 1 else since) := es1
            obtain ⟨s2, es2⟩ : ∃ s2 : Int, s2 = if what = 2 then sinceT M M1 since else sinceN M1 since := ⟨_, rfl⟩
            have hs0 := HAN.out.sn.1
            have HS2 : Hid (s2 = (if M1.ph = 4 then s1 else 0) ∧ 0 ≤ s2 ∧ s2 ≤ since + 1) := by
              show _ ∧ _
              rw [es2, since_two HBD.out, es1]
              exact ⟨rfl, since_in hs0⟩
            have HIN2 : Hid (DayInv M1 (fillsUp lots1 fs) side1 s2 hands1) := by rw [es2]; exact HINV.out
            clear es1 es2 HINV
            go_upto_if 304 with fail
            go_cut [] from 305 to 311 (fun wd => Day wd base c d2 M1 (fillsUp lots1 fs) side1 s1 hands1 ∧ Below base w wd)
            case first =>
              cases b with
              | true =>
                have c9 : wc.cell? ⟨d.db, 9, none⟩ = some (.int .i64 since) := by rw [← HE.out.1]; exact blk_cell (j := 9) HD6.out.box rfl
                have f9 : wc.frozen? ⟨d.db, 9, none⟩ = false := by rw [← HE.out.1]; exact blk_free (j := 9) HD6.out.box
                have rw9 : IntKind.i64.wrap (since + 1) = since + 1 := IntWalk.i64_in _ (by omega)
                go_wp2_with fail
                go_meet
                have e1 : s1 = since + 1 := HS1.out
                rw [← HE.out.1, e1]
                exact ⟨HD6.out.write (since' := since + 1) (hands' := hands1) rfl, HB6.out.trans (HD6.out.mine (out_set wc ⟨d2.db, 9, none⟩ (.int .i64 (since + 1))) (fun j hj => by rw [show j = d2.db from hj]; exact HD6.out.own _ (Or.inr (Or.inl rfl))) (Nat.le_trans hb HB6.out.size))⟩
              | false =>
                go_wp2_with fail
                go_meet
                have e1 : s1 = since := HS1.out
                rw [e1]
                exact ⟨HD6.out, HB6.out⟩
            case rest =>
              obtain ⟨hd7, hb7⟩ := hcut
              have HD7 : Hid (Day wc base c d2 M1 (fillsUp lots1 fs) side1 s1 hands1) := hd7
              have HB7 : Hid (Below base w wc) := hb7
              clear hd7 hb7 HD6 HB6 HT6 x06
              go_upto_if 313 with fail
              go_cut [] from 314 to 316 (fun wd => Day wd base c d2 M1 (fillsUp lots1 fs) side1 s2 hands1 ∧ Below base w wd)
              case first =>
                by_cases h4 : M1.ph = 4
                · have n4 : (M1.ph != 4) = false := by rw [h4]; rfl
                  have e2 : Hid (s2 = s1) := by show _ = _; rw [HS2.out.1, if_pos h4]
                  clear h4
                  go_wp2_with fail
                  go_meet
                  rw [e2.out]
                  exact ⟨HD7.out, HB7.out⟩
                · have n4 : (M1.ph != 4) = true := by simpa using h4
                  have e2 : Hid (s2 = 0) := by show _ = _; rw [HS2.out.1, if_neg h4]
                  have c9 : wc.cell? ⟨d.db, 9, none⟩ = some (.int .i64 s1) := by rw [← HE.out.1]; exact blk_cell (j := 9) HD7.out.box rfl
                  have f9 : wc.frozen? ⟨d.db, 9, none⟩ = false := by rw [← HE.out.1]; exact blk_free (j := 9) HD7.out.box
                  clear h4
                  go_wp2_with fail
                  go_meet
                  rw [← HE.out.1, e2.out]
                  exact ⟨HD7.out.write (since' := 0) (hands' := hands1) rfl, HB7.out.trans (HD7.out.mine (out_set wc ⟨d2.db, 9, none⟩ (.int .i64 0)) (fun j hj => by rw [show j = d2.db from hj]; exact HD7.out.own _ (Or.inr (Or.inl rfl))) (Nat.le_trans hb HB7.out.size))⟩
              case rest =>
                obtain ⟨hd8, hb8⟩ := hcut
                have HD8 : Hid (Day wc base c d2 M1 (fillsUp lots1 fs) side1 s2 hands1) := hd8
                have HB8 : Hid (Below base w wc) := hb8
                have ht := HIN2.out.time
                have hti := HIN2.out.ti
                have hmo := HIN2.out.mo
                rw [hd8.cfg.2.2.2.1, hd8.cfg.2.2.2.2] at ht
                rw [hd8.cfg.2.2.2.1] at hti
                rw [hd8.cfg.2.2.2.2] at hmo
                have hmul : 0 ≤ c.ti * (1 + c.mo) ∧ c.ti * (1 + c.mo) ≤ 1000000 * 11 := ⟨Int.mul_nonneg (by omega) (by omega), Int.mul_le_mul hti.2 (by omega) (by omega) (by omega)⟩
                have r1 : IntKind.i64.wrap (1 + c.mo) = 1 + c.mo := IntWalk.i64_in _ (by omega)
                have r2 : IntKind.i64.wrap (c.ti * (1 + c.mo)) = c.ti * (1 + c.mo) := IntWalk.i64_in _ (by omega)
                have k9 : ∀ dq os, (Go.Sort.grow (redrawn wc dq) os).cell? ⟨d.db, 9, none⟩ = some (.int .i64 s2) := by rw [← HE.out.1]; exact cell_regrown (blk_cell (j := 9) (v := .int .i64 s2) hd8.box rfl)
                have k5 : ∀ dq os, (Go.Sort.grow (redrawn wc dq) os).cell? ⟨d.db, 5, none⟩ = some (.int .i64 c.ti) := by rw [← HE.out.1]; exact cell_regrown (blk_cell (j := 5) (v := .int .i64 c.ti) hd8.box rfl)
                have k6 : ∀ dq os, (Go.Sort.grow (redrawn wc dq) os).cell? ⟨d.db, 6, none⟩ = some (.int .i64 c.mo) := by rw [← HE.out.1]; exact cell_regrown (blk_cell (j := 6) (v := .int .i64 c.mo) hd8.box rfl)
                have k10 : ∀ dq os, (Go.Sort.grow (redrawn wc dq) os).cell? ⟨d.db, 10, none⟩ = some (.bool hands1) := by rw [← HE.out.1]; exact cell_regrown (blk_cell (j := 10) (v := .bool hands1) hd8.box rfl)
                clear hd8 hb8 HD7 HB7
                go_upto_region 52 with fail
                have HEND : Hid (∀ w', Below wc.heap.size wc w' → DoEnd w base c d M since w') := fun w' hb' => ⟨d2, M1, fillsUp lots1 fs, side1, s2, hands1, HD8.out.below hb', HIN2.out, HE.out.1, HE.out.2.2.1, HE.out.2.2.2.1, HE.out.2.2.2.2, hnow1, HS2.out.2.2, HB8.out.trans (hb'.mono (Nat.le_trans hb HB8.out.size))⟩
                cases hands1 with
                | true =>
                  refine wp_region_quiet_below (by kernel_rfl) (by kernel_rfl) ?_
                  repeat (go_big_quiet_step (fail))
                  refine wpQuiet_nil ?_
                  intro _ hw'
                  obtain ⟨⟨dq, osq⟩, hw''⟩ := hw'
                  subst hw''
                  have HB9 : Hid (Below wc.heap.size wc (Go.Sort.grow (redrawn wc dq) osq)) := below_regrown wc dq osq
                  generalize Go.Sort.grow (redrawn wc dq) osq = w9 at HB9 ⊢
                  go_wp2_with fail
                  go_ret
                  exact ⟨rfl, HEND.out _ HB9.out⟩
                | false =>
                  have n9 : decide (s2 < c.ti * (1 + c.mo)) = true := decide_eq_true (ht.elim (fun e => by cases e) id)
                  refine wp_region_quiet_below (by kernel_rfl) (by kernel_rfl) ?_
                  repeat (go_big_quiet_step (fail))
                  refine wpQuiet_nil ?_
                  intro _ hw'
                  obtain ⟨⟨dq, osq⟩, hw''⟩ := hw'
                  subst hw''
                  have HB9 : Hid (Below wc.heap.size wc (Go.Sort.grow (redrawn wc dq) osq)) := below_regrown wc dq osq
                  generalize Go.Sort.grow (redrawn wc dq) osq = w9 at HB9 ⊢
                  go_wp2_with fail
                  go_ret
                  exact ⟨rfl, HEND.out _ HB9.out⟩
end Go.Proofs.YtjdkagafdnchhaaGreatDoor
