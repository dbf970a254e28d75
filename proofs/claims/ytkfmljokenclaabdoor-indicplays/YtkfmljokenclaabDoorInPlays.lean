/-
  What the law IndicPlays returns at every script, over this seat's translation. Conditions stand in each theorem: where the script's rows lie, and the cell of errors.errorType.
-/
import Derived.Test.YtkfmljokenclaabDoorInSw
namespace Go.Proofs.YtkfmljokenclaabDoor
open Go.RowKit

theorem lie_false {o : Ord} (h : ¬ ((o.side = 1 ∨ o.side = 2) ∧ (1 ≤ o.qty ∧ o.qty ≤ 1000000) ∧ (o.kind = 2 ∨ (1 ≤ o.price ∧ o.price ≤ 1000000)))) : lieB o = false := by
  cases e : lieB o with
  | false => rfl
  | true => exact absurd (lieB_iff.1 e) h
theorem not_is {a c : Bool} (h : c = !a) : (a = true → c = false) ∧ (a = false → c = true) := by
  subst h; constructor <;> intro h <;> rw [h] <;> rfl
theorem lv_cell' {w w' : World} {p : Addr} {v : Value} (hb : Below w.heap.size w w') (h : w.cell? p = some v) : w'.cell? p = some v := lv_cell hb h

set_option maxRecDepth 4000 in
set_option maxHeartbeats 40000000 in
theorem in_rows (a : Option Addr) (b off len cap : Nat) (X : Nat → Int) (O : Nat → Ord) (more : Int) (w : World) (ha : 0 < len → a = some ⟨b, off, none⟩) (hX : ∀ i, i < len → w.cell? ⟨b, off + i * 6, none⟩ = some (.int .i64 (X i)) ∧ w.cell? ⟨b, off + i * 6 + 1, none⟩ = some (.int .i64 (O i).id) ∧ w.cell? ⟨b, off + i * 6 + 2, none⟩ = some (.int .i64 (O i).side) ∧ w.cell? ⟨b, off + i * 6 + 3, none⟩ = some (.int .i64 (O i).kind) ∧ w.cell? ⟨b, off + i * 6 + 4, none⟩ = some (.int .i64 (O i).price) ∧ w.cell? ⟨b, off + i * 6 + 5, none⟩ = some (.int .i64 (O i).qty)) (hn : len ≤ 100) (hm : -1099511627776 ≤ more ∧ more ≤ 1000000) (hg : ErrT w) :
    Calls Tryd.prog 3 #[.slice a len cap, .int .i64 more] w fun e w' => e = .returned (.bool true) ∧ Below w.heap.size w w' := by
  have HA : Hid (0 < len → a = some ⟨b, off, none⟩) := ha
  have HG : Hid (ErrT w) := hg
  have HX : Hid (∀ i, i < len → w.cell? ⟨b, off + i * 6, none⟩ = some (.int .i64 (X i)) ∧ w.cell? ⟨b, off + i * 6 + 1, none⟩ = some (.int .i64 (O i).id) ∧ w.cell? ⟨b, off + i * 6 + 2, none⟩ = some (.int .i64 (O i).side) ∧ w.cell? ⟨b, off + i * 6 + 3, none⟩ = some (.int .i64 (O i).kind) ∧ w.cell? ⟨b, off + i * 6 + 4, none⟩ = some (.int .i64 (O i).price) ∧ w.cell? ⟨b, off + i * 6 + 5, none⟩ = some (.int .i64 (O i).qty)) := hX
  clear hg hX ha
  have hmm := @run_makeMap Tryd.prog
  have k1 : decide ((len : Int) > 100) = false := decide_eq_false (by omega)
  have k2 : decide (more > 1000000) = false := decide_eq_false (by omega)
  have k3 : decide (more < -1099511627776) = false := decide_eq_false (by omega)
  go_enter Tryd.func3, Tryd.ntmps3
  go_wp2_with fail
  have hBo : Both w ((w.alloc (.cells #[.slice none 0 0, .int .i64 0, .int .i64 0, .int .i64 0] 27)).alloc (.map #[] 0)) (.slice none 0 0) (fun _ _ _ => 0) 0 := by
    refine ⟨⟨two_old w _ _, [], World.ownsRow_nil _ _ _ _, LvInv.start, Nat.le_refl _⟩, ⟨.map [], ?_, fun _ _ _ _ => rfl, fun _ _ _ _ h => by cases h⟩, NOk.start, bel2 w _ _, fun k hk => by cases hk⟩
    have := World.ownsMap_made (H := Unit) (w.alloc (.cells #[.slice none 0 0, .int .i64 0, .int .i64 0, .int .i64 0] 27)) Tryd.prog 34 (plainElem Tryd.prog 3)
    rwa [show (w.alloc (.cells #[.slice none 0 0, .int .i64 0, .int .i64 0, .int .i64 0] 27)).heap.size = w.heap.size + 1 by simp] at this
  have HBo : Hid (Both w ((w.alloc (.cells #[.slice none 0 0, .int .i64 0, .int .i64 0, .int .i64 0] 27)).alloc (.map #[] 0)) (.slice none 0 0) (fun _ _ _ => 0) 0) := hBo
  clear hBo
  generalize (w.alloc (.cells #[.slice none 0 0, .int .i64 0, .int .i64 0, .int .i64 0] 27)).alloc (.map #[] 0) = w3 at HBo ⊢
  go_loopw [7] (fun u wr => ∃ (i : Nat) (v : Value) (n : Int → Int → Int → Int), i ≤ len ∧ u = .int .i64 i ∧ Both w wr v n i) (fun u _ => len - (intOf u).toNat)
  case atStart => exact ⟨0, _, _, Nat.zero_le _, rfl, HBo.out⟩
  case round =>
    obtain ⟨i, v, n, hi, rfl, hB⟩ := hrel
    clear HBo
    have HB : Hid (Both w wr v n i) := hB
    clear hB
    by_cases hlt : i < len
    · obtain rfl := HA.out (by omega)
      obtain ⟨c0, c1, c2, c3, c4, c5⟩ := HX.out i hlt
      have HBL : Hid (b < w.heap.size) := World.block_lt_of_cell? w _ c0
      replace c0 := lv_cell' HB.out.bel c0
      replace c1 := lv_cell' HB.out.bel c1
      replace c2 := lv_cell' HB.out.bel c2
      replace c3 := lv_cell' HB.out.bel c3
      replace c4 := lv_cell' HB.out.bel c4
      replace c5 := lv_cell' HB.out.bel c5
      generalize O i = o at c1 c2 c3 c4 c5
      generalize X i = t at c0
      have q0 : (0 : Int) ≤ (i : Int) := by omega
      have q1 : (i : Int) < (len : Int) := by omega
      go_upto_if 45 with fail
      have hO := two_old wr (.cells #[.int .i64 o.id, .int .i64 o.side, .int .i64 o.kind, .int .i64 o.price, .int .i64 o.qty] 30) (.cells #[.int .i64 o.side, .int .i64 0, .int .i64 o.price] 34)
      have hP := two_new wr (.cells #[.int .i64 o.id, .int .i64 o.side, .int .i64 o.kind, .int .i64 o.price, .int .i64 o.qty] 30) (.cells #[.int .i64 o.side, .int .i64 0, .int .i64 o.price] 34)
      have hb := bel2 wr (.cells #[.int .i64 o.id, .int .i64 o.side, .int .i64 o.kind, .int .i64 o.price, .int .i64 o.qty] 30) (.cells #[.int .i64 o.side, .int .i64 0, .int .i64 o.price] 34)
      have HB1 : Hid (Both w ((wr.alloc (.cells #[.int .i64 o.id, .int .i64 o.side, .int .i64 o.kind, .int .i64 o.price, .int .i64 o.qty] 30)).alloc (.cells #[.int .i64 o.side, .int .i64 0, .int .i64 o.price] 34)) v n i) := HB.out.below hb
      have hcx : ∀ p u, wr.cell? p = some u → ((wr.alloc (.cells #[.int .i64 o.id, .int .i64 o.side, .int .i64 o.kind, .int .i64 o.price, .int .i64 o.qty] 30)).alloc (.cells #[.int .i64 o.side, .int .i64 0, .int .i64 o.price] 34)).cell? p = some u := fun p u hp => lv_cell hb hp
      replace c0 := hcx _ _ c0
      have hxl : wr.heap.size < wr.heap.size + 1 := by omega
      have HXB : Hid (w.heap.size ≤ wr.heap.size) := HB.out.bel.size
      clear hb hcx c1 c2 c3 c4 c5 HB
      generalize (wr.alloc (.cells #[.int .i64 o.id, .int .i64 o.side, .int .i64 o.kind, .int .i64 o.price, .int .i64 o.qty] 30)).alloc (.cells #[.int .i64 o.side, .int .i64 0, .int .i64 o.price] 34) = wx at hO hP HB1 c0 ⊢
      generalize wr.heap.size = x at hO hP HXB hxl ⊢
      go_cut [] from 27 to 174 (fun wc => Both w wc v n i ∧ OBox wc x o ∧ PBox wc (x + 1) o ∧ wc.cell? ⟨b, off + i * 6, none⟩ = some (.int .i64 t))
      case first =>
        by_cases hk : o.kind = 2
        · have hkb : (o.kind == 2) = true := by rw [hk]; rfl
          have HP2 : Hid (wx.heap[x + 1]? = some (.cells #[.int .i64 o.side, .int .i64 0, .int .i64 o.price] 34 (0, 0))) := hP
          have HO2 : Hid (OBox wx x o) := hO
          have HPK : Hid (plK o = 2 ∧ plP o = 0) := ⟨if_pos hk, if_pos hk⟩
          have o1 := blk_cell (j := 1) hO rfl
          have p0 := blk_cell (j := 0) hP rfl
          have p1 := blk_cell (j := 1) hP rfl
          have p2 := blk_cell (j := 2) hP rfl
          have f0 := blk_free (j := 0) hP
          have f1 := blk_free (j := 1) hP
          have f2 := blk_free (j := 2) hP
          clear hk hO hP
          go_wp2_with fail
          go_meet
          have hS : Out (fun j => j = x + 1) wx (((wx.setCell ⟨x + 1, 0, none⟩ (.int .i64 o.side)).setCell ⟨x + 1, 1, none⟩ (.int .i64 2)).setCell ⟨x + 1, 2, none⟩ (.int .i64 0)) := out_setIn (out_setIn (out_set wx ⟨x + 1, 0, none⟩ _) rfl) rfl
          refine ⟨HB1.out.outP HP2.out (by have := HXB.out; omega) hS, HO2.out.out hS (by omega), ?_, ?_⟩
          · show (((wx.setCell ⟨x + 1, 0, none⟩ (.int .i64 o.side)).setCell ⟨x + 1, 1, none⟩ (.int .i64 2)).setCell ⟨x + 1, 2, none⟩ (.int .i64 0)).heap[x + 1]? = _
            rw [HPK.out.1, HPK.out.2]
            exact blk_set (j := 2) _ (blk_set (j := 1) _ (blk_set (j := 0) (.int .i64 o.side) HP2.out))
          · have hbl := HBL.out
            have hxb := HXB.out
            rw [World.cell?_setCell_other _ _ _ _ (fun e => by have := congrArg Addr.block e; simp at this; omega), World.cell?_setCell_other _ _ _ _ (fun e => by have := congrArg Addr.block e; simp at this; omega), World.cell?_setCell_other _ _ _ _ (fun e => by have := congrArg Addr.block e; simp at this; omega)]
            exact c0
        · have hkb : (o.kind == 2) = false := beq_eq_false_iff_ne.2 hk
          have HPB : Hid (PBox wx (x + 1) o) := by
            show wx.heap[x + 1]? = _
            rw [show plK o = 0 from if_neg hk, show plP o = o.price from if_neg hk]; exact hP
          have HO2 : Hid (OBox wx x o) := hO
          clear hk hO hP
          go_wp2_with fail
          go_meet
          exact ⟨HB1.out, HO2.out, HPB.out, c0⟩
      case rest =>
        obtain ⟨hB, hO1, hP1, c0⟩ := hcut
        have HB : Hid (Both w wc v n i) := hB
        have HO : Hid (OBox wc x o) := hO1
        have HP : Hid (PBox wc (x + 1) o) := hP1
        clear hB hO1 hP1 HB1 hO hP
        go_upto_region 13 with fail
        obtain ⟨nb, hnb⟩ : ∃ nb : Bool, nb = !lieB o := ⟨_, rfl⟩
        have HNB : Hid ((lieB o = true → nb = false) ∧ (lieB o = false → nb = true)) := not_is hnb
        clear hnb
        go_cut [77] from 27 to 174 (fun p wd => p = .bool nb ∧ wd = wc)
        case first =>
          have o1 := blk_cell (j := 1) HO.out rfl
          have o2 := blk_cell (j := 2) HO.out rfl
          have o3 := blk_cell (j := 3) HO.out rfl
          have o4 := blk_cell (j := 4) HO.out rfl
          by_cases h1 : o.side < 1
          · have HN : Hid (nb = true) := HNB.out.2 (lie_false (by omega))
            go_wp2_with fail
            go_meet
            exact ⟨by rw [HN.out], rfl⟩
          by_cases h2 : o.side > 2
          · have HN : Hid (nb = true) := HNB.out.2 (lie_false (by omega))
            go_wp2_with fail
            go_meet
            exact ⟨by rw [HN.out], rfl⟩
          by_cases h3 : o.qty < 1
          · have HN : Hid (nb = true) := HNB.out.2 (lie_false (by omega))
            go_wp2_with fail
            go_meet
            exact ⟨by rw [HN.out], rfl⟩
          by_cases h4 : o.qty > 1000000
          · have HN : Hid (nb = true) := HNB.out.2 (lie_false (by omega))
            go_wp2_with fail
            go_meet
            exact ⟨by rw [HN.out], rfl⟩
          by_cases h5 : o.kind = 2
          · have HN : Hid (nb = false) := HNB.out.1 (lieB_iff.2 (by omega))
            have hkb : (o.kind == 2) = true := by rw [h5]; rfl
            have hkn : (o.kind != 2) = false := by rw [bne, hkb]; rfl
            clear h5
            go_wp2_with fail
            go_meet
            exact ⟨by rw [HN.out], rfl⟩
          · have hkb : (o.kind == 2) = false := beq_eq_false_iff_ne.2 h5
            have hkn : (o.kind != 2) = true := by rw [bne, hkb]; rfl
            go_wp2_with fail
            refine (inRight _ _).mono ?_
            rintro e w1 ⟨rfl, hw⟩
            subst hw
            cases h6 : inC 1 1000000 o.price with
            | true =>
              have HN : Hid (nb = false) := HNB.out.1 (lieB_iff.2 (by have := inC_iff.1 h6; omega))
              go_wp2_with fail
              go_meet
              exact ⟨by rw [HN.out], rfl⟩
            | false =>
              have HN : Hid (nb = true) := HNB.out.2 (lie_false (by have := inC_not.1 h6; omega))
              go_wp2_with fail
              go_meet
              exact ⟨by rw [HN.out], rfl⟩
        case rest =>
          obtain ⟨rfl, rfl⟩ := hcut
          go_upto_if 77 with fail
          obtain ⟨ev, hev⟩ : ∃ ev : Int, (nb = false → ev = 0) ∧ (nb = true → ev = 1) := ⟨if nb = true then 1 else 0, fun h => by rw [h]; rfl, fun h => by rw [h]; rfl⟩
          have HEV : Hid ((nb = false → ev = 0) ∧ (nb = true → ev = 1)) := hev
          clear hev
          go_cut [10] from 27 to 174 (fun p wd => p = .int .i64 ev ∧ wd = wc)
          case first =>
            cases hb : nb with
            | true =>
              have HE : Hid (ev = 1) := HEV.out.2 hb
              go_wp2_with fail
              go_meet
              exact ⟨by rw [HE.out], rfl⟩
            | false =>
              have HE : Hid (ev = 0) := HEV.out.1 hb
              go_wp2_with fail
              go_meet
              exact ⟨by rw [HE.out], rfl⟩
          case rest =>
            obtain ⟨rfl, rfl⟩ := hcut
            have HLE : Hid ((lieB o = true → ev = 0) ∧ (lieB o = false → ev = 1)) := ⟨fun h => HEV.out.1 (HNB.out.1 h), fun h => HEV.out.2 (HNB.out.2 h)⟩
            clear HNB HEV
            go_upto_block 2 with fail
            refine sw b off len cap i x more ev t o v n w wc _ _ _ _ _ _ _ _ _ _ _ _ _ _ _ _ _ _ _ _ _ _ _ _ _ _ _ _ _ _ _ _ _ _ _ _ _ _ _ _ _ _ _ _ _ _ _ _ _ _ _ _ _ _ _ _ _ _ _ _ _ _ _ _ _ _ _ _ _ _ _ _ _ _ _ _ _ _ _ _ _ _ _ _ _ _ _ _ _ _ _ _ _ _ _ _ _ _ _ _ _ _ _ _ _ _ _ _ _ _ _ _ _ _ _ _ _ _ _ _ _ _ _ _ _ _ _ _ _ _ _ _ _ _ _ _ _ _ _ _ _ _ _ _ _ _ _ _ _ _ _ _ _ _ _ _ _ _ _ _ _ _ _ _ _ _ _ hn hlt HG HB HO HP HLE ?_
            intro e10 e27 e28 e29 e30 e31 e32 e33 e34 e35 e36 e37 e38 e39 e40 e41 e42 e43 e44 e45 e46 e47 e48 e49 e50 e51 e52 e53 e54 e55 e56 e57 e58 e59 e60 e61 e62 e63 e64 e65 e66 e67 e68 e69 e70 e71 e72 e73 e74 e75 e76 e77 e78 e79 e80 e81 e82 e83 e84 e85 e86 e87 e88 e89 e90 e91 e92 e93 e94 e95 e96 e97 e98 e99 e100 e101 e102 e103 e104 e105 e106 e107 e108 e109 e110 e111 e112 e113 e114 e115 e116 e117 e118 e119 e120 e121 e122 e123 e124 e125 e126 e127 e128 e129 e130 e131 e132 e133 e134 e135 e136 e137 e138 e139 e140 e141 e142 e143 e144 e145 e146 e147 e148 e149 e150 e151 e152 e153 e154 e155 e156 e157 e158 e159 e160 e161 e162 e163 e164 e165 e166 e167 e168 e169 e170 e171 e172 e173 e174 wc hcut
            obtain ⟨v2, n2, hB2⟩ := hcut
            have HB2 : Hid (Both w wc v2 n2 (i + 1)) := hB2
            clear hB2 HB HO HP HLE c0
            obtain ⟨D, hMD, hLD⟩ := HB2.out.map
            have HMD : Hid (mapIs wc (w.heap.size + 1) (i + 1) D) := hMD
            have HLD : Hid (LtD D n2) := hLD
            have hsz := hMD.size_le
            clear hMD hLD
            go_wp2_with (at_range; refine wpList_range_own _ rfl _ 28 rfl 34 3 Tryd.keyPl Tryd.underlying28 _ (w.heap.size + 1) (i + 1) _ rfl HMD.out ?_; intro w0 hrg0 hg0 hs0)
            have HRG : Hid (rngs w0 (w.heap.size + 1) wc.heap.size (i + 1) D (Maps.has D) (Maps.size D)) := hrg0
            have HB0 : Hid (Below wc.heap.size wc w0) := (Below.refl _ _).grown hg0 (Nat.le_refl _) (fun q hq => by cases hq)
            clear hrg0 hg0 hs0
            go_loopw [11, 12, 13, 14] (fun a11 _ _ _ wr => ∃ (left : Lit → Bool) (cnt : Nat) (ss : List Pl) (G : List Ord), rngs wr (w.heap.size + 1) wc.heap.size (i + 1) D left cnt ∧ CollP D left ss ∧ GOut n2 ss G ∧ wr.ownsRow wc.heap.size 30 5 a11 G.length (oV G) ∧ Below wc.heap.size wc wr) (fun _ _ _ _ wr => wr.rangeLeft (w.heap.size + 1) wc.heap.size)
            case atStart => exact ⟨_, _, [], [], HRG.out, CollP.start D, GOut.start n2, World.ownsRow_nil _ _ _ _, HB0.out⟩
            case round =>
              obtain ⟨left, cnt, ss, G, hrg, hC, hGo, hrow, hbe⟩ := hrel
              have HRW : Hid (rngs wr (w.heap.size + 1) wc.heap.size (i + 1) D left cnt) := hrg
              have HC : Hid (CollP D left ss) := hC
              have HGo : Hid (GOut n2 ss G) := hGo
              have HBe : Hid (Below wc.heap.size wc wr) := hbe
              have hgl := hGo.short HB2.out.ok (by omega) hC.nd
              have HRO : Hid (wr.ownsRow wc.heap.size 30 5 u11 G.length (oV G)) := hrow
              obtain ⟨ao, ac, rfl, _, _⟩ := owns_shape hrow
              clear hrg hC hGo hbe hrow HRG HB0
              go_wp2_with (at_next; refine wpList_next_ranges _ rfl _ rfl 34 Tryd.keyPl (plainElem Tryd.prog 3) (fun x : Pl => .agg #[.int .i64 x.1, .int .i64 x.2.1, .int .i64 x.2.2]) (Value.int .i64) (fun key kl hk => by obtain ⟨s, k, p, e, _, _⟩ := pl_inv hk; exact ⟨(s, k, p), e⟩) (fun v y hv => by obtain ⟨a, e, _⟩ := plainElem_int_inv Tryd.underlying3 hv; exact ⟨a, e⟩) (w.heap.size + 1) wc.heap.size (i + 1) _ _ _ rfl HRW.out ?_ ?_)
              · intro hc0 hl0
                have HGA : Hid (GAll n2 G) := HGo.out.all HB2.out.ok (by omega) HC.out.nd (HC.out.all HLD.out HB2.out.ok hl0)
                have HBr : Hid (Both w wr v2 n2 (i + 1)) := HB2.out.below HBe.out
                have HI : Hid (IndAt wr w.heap.size v2 (fun p => sumQ (limBB p) G) (fun p => sumQ (limSB p) G) (sumQ mkBB G) (sumQ mkSB G) (i + 1)) := by
                  obtain ⟨e1, e2, e3, e4⟩ := HGA.out.eqs
                  show IndAt _ _ _ _ _ _ _ _
                  rw [← e1, ← e2, ← e3, ← e4]
                  exact HBr.out.ind
                obtain ⟨_, _, e0, hoi⟩ := OrdsIn.of_row HRO.out
                simp only [Value.slice.injEq, true_and] at e0
                obtain ⟨rfl, rfl⟩ := e0
                have HOI : Hid (OrdsIn wr ao G) := hoi
                have hcl := curve_len G more
                have HSM : Hid (∀ x ∈ curveL G more, x.Small) := fun x hx => (curve_small (by omega) hm.2 HGA.out.prices x hx).1
                clear hc0 hl0 hoi HRO HC HGo HRW HMD HLD HBe HB2 hsz
                go_wp2_with fail
                refine (inPoints w.heap.size v2 G (i + 1) more wr HI.out (by omega) HGA.out.okO (by omega)).mono ?_
                rintro e w1 ⟨v1, rfl, hr1, hb1⟩
                obtain ⟨a1, cp1, rfl, hp1⟩ := PtsIn.of_row hr1
                have HP1 : Hid (PtsIn w1 a1 (curveL G more)) := hp1
                have HB1 : Hid (Below wr.heap.size wr w1) := hb1
                clear hr1 hp1 hb1
                go_wp2_with fail
                refine (cuCurve ao ac G more w1 (HOI.out.below HB1.out) (by omega)).mono ?_
                rintro e w2 ⟨v2', rfl, hr2, hb2⟩
                obtain ⟨a2, cp2, rfl, hp2⟩ := PtsIn.of_row hr2
                have HP2 : Hid (PtsIn w2 a2 (curveL G more)) := hp2
                have HP12 : Hid (PtsIn w2 a1 (curveL G more)) := HP1.out.below hb2
                have HB2 : Hid (Below wr.heap.size wr w2) := bel_then HB1.out hb2
                clear hr2 hp2 hb2 HP1
                go_wp2_with fail
                refine (cuSame a1 a2 cp1 cp2 (curveL G more) w2 HP12.out HP2.out (by omega)).mono ?_
                rintro e w3 ⟨rfl, hb3⟩
                have HB3 : Hid (Below wr.heap.size wr w3) := bel_then HB2.out hb3
                clear hb3 HP2 HP12 HB1 HB2
                go_wp2_with fail
                refine (inQuote w.heap.size v2 G (i + 1) more w3 (HI.out.below HB3.out) (by omega) HGA.out.okO (by omega) hm HGA.out.prices).mono ?_
                rintro e w4 ⟨rfl, hb4⟩
                have HB4 : Hid (Below wr.heap.size wr w4) := bel_then HB3.out hb4
                clear hb4 HB3
                go_wp2_with fail
                refine (cuCurve ao ac G more w4 (HOI.out.below HB4.out) (by omega)).mono ?_
                rintro e w5 ⟨v5, rfl, hr5, hb5⟩
                obtain ⟨a5, cp5, rfl, hp5⟩ := PtsIn.of_row hr5
                have HP5 : Hid (PtsIn w5 a5 (curveL G more)) := hp5
                have HB5 : Hid (Below wr.heap.size wr w5) := bel_then HB4.out hb5
                clear hr5 hp5 hb5 HB4
                go_wp2_with fail
                refine (chChoose a5 cp5 (curveL G more) more w5 HP5.out (by omega) HSM.out hm.1 (by omega)).mono ?_
                rintro e w6 ⟨rfl, hb6⟩
                have HB6 : Hid (Both w w6 v2 n2 (i + 1)) := HBr.out.below (bel_then HB5.out hb6)
                clear hb6 HB5 HP5 HI HOI HGA HSM
                generalize chooseL (curveL G more) more = qq
                go_wp2_with fail
                go_roundw
                case rel => exact ⟨i + 1, v2, n2, by omega, by go_num, HB6.out⟩
                case measure => simp [intOf]; omega
              · intro s k p c kl yd yp w2 cnt2 hkey hlk hv hat hrg2 hlt2 hg2 hs2 hen
                obtain ⟨hkl, hwf, hc, hpk, hc0, hfr, hC2⟩ := rng_step (y := (yd, yp)) HLD.out HB2.out.ok HC.out hkey hlk hv hat
                have HR2 : Hid (rngs w2 (w.heap.size + 1) wc.heap.size (i + 1) D (fun z => left z && !z.sameKey kl) cnt2) := hrg2
                have HC2 : Hid (CollP D (fun z => left z && !z.sameKey kl) (ss ++ [(s, k, p)])) := hC2
                have HLT : Hid (cnt2 < cnt) := hlt2
                have HBe2 : Hid (Below wc.heap.size wc w2) := HBe.out.grown hg2 HBe.out.size (fun q hq => by injection hq with hq; omega)
                have HRO2 : Hid (w2.ownsRow wc.heap.size 30 5 (.slice ao G.length ac) G.length (oV G)) := owns_out HRO.out (Out.of_grown (S := fun j => j = wc.heap.size) hg2 (fun k hk => by injection hk with hk; exact hk.symm)) (fun k hk e => (rngs_row HRW.out HRO.out).2 (by rw [hk, show k = wc.heap.size from e]))
                have HFR : Hid ((s, k, p) ∉ ss) := hfr
                have HPK : Hid (PlOk s k p) := hpk
                have HGI : Hid (GIn n2 ss s k p c G) := by show GIn n2 ss s k p c G; rw [hc]; exact GIn.start HGo.out s k p
                have HCN : Hid (c = n2 s k p) := hc
                have hcs := HB2.out.ok.small s k p
                rw [← hc] at hcs
                clear hkey hlk hv hat hrg2 hlt2 hg2 hs2 hC2 hkl hwf hc hfr hpk HRO HBe HGo HC
                go_wp2_with fail
                have hbx := heap_alloc_new w2 (.cells #[.int .i64 s, .int .i64 k, .int .i64 p] 34)
                have HR3 : Hid (rngs (w2.alloc (.cells #[.int .i64 s, .int .i64 k, .int .i64 p] 34)) (w.heap.size + 1) wc.heap.size (i + 1) D (fun z => left z && !z.sameKey kl) cnt2) := HR2.out.alloc _
                have HRO3 : Hid ((w2.alloc (.cells #[.int .i64 s, .int .i64 k, .int .i64 p] 34)).ownsRow wc.heap.size 30 5 (.slice ao G.length ac) G.length (oV G)) := HRO2.out.alloc _
                have HBe3 : Hid (Below wc.heap.size wc (w2.alloc (.cells #[.int .i64 s, .int .i64 k, .int .i64 p] 34))) := HBe2.out.alloc HBe2.out.size _
                have HBX : Hid ((w2.alloc (.cells #[.int .i64 s, .int .i64 k, .int .i64 p] 34)).heap[w2.heap.size]? = some (.cells #[.int .i64 s, .int .i64 k, .int .i64 p] 34 (0, 0))) := hbx
                clear hbx hen HR2 HRO2 HBe2
                generalize w2.alloc (.cells #[.int .i64 s, .int .i64 k, .int .i64 p] 34) = w4 at HR3 HRO3 HBe3 HBX ⊢
                generalize w2.heap.size = kb at HBX ⊢
                obtain ⟨iO, hiO, hO0, hO1, hO2⟩ := info_parts Tryd.infoOi
                go_loopw [11, 13, 14] (fun a11 a13 _ wr => ∃ (r : Int) (G : List Ord), a13 = .int .i64 r ∧ 0 ≤ r ∧ r ≤ c ∧ GIn n2 ss s k p r G ∧ wr.ownsRow wc.heap.size 30 5 a11 G.length (oV G) ∧ rngs wr (w.heap.size + 1) wc.heap.size (i + 1) D (fun z => left z && !z.sameKey kl) cnt2 ∧ wr.heap[kb]? = some (.cells #[.int .i64 s, .int .i64 k, .int .i64 p] 34 (0, 0)) ∧ Below wc.heap.size wc wr) (fun _ a13 _ _ => (intOf a13).toNat)
                case atStart => exact ⟨c, G, rfl, by omega, by omega, HGI.out, HRO3.out, HR3.out, HBX.out, HBe3.out⟩
                case round =>
                  obtain ⟨r, G, rfl, hr0, hrc, hGI, hrow, hrg, hbx, hbe⟩ := hrel
                  clear HGI HRO3 HR3 HBX HBe3
                  have HGI : Hid (GIn n2 ss s k p r G) := hGI
                  have HRO : Hid (wr.ownsRow wc.heap.size 30 5 u11 G.length (oV G)) := hrow
                  have HRG : Hid (rngs wr (w.heap.size + 1) wc.heap.size (i + 1) D (fun z => left z && !z.sameKey kl) cnt2) := hrg
                  have HBX : Hid (wr.heap[kb]? = some (.cells #[.int .i64 s, .int .i64 k, .int .i64 p] 34 (0, 0))) := hbx
                  have HBe : Hid (Below wc.heap.size wc wr) := hbe
                  have hgs := hGI.short hr0 HB2.out.ok (by omega) HC2.out.nd
                  obtain ⟨ao, ac, rfl, _, _⟩ := owns_shape hrow
                  have p0 := blk_cell (j := 0) hbx rfl
                  have p1 := blk_cell (j := 1) hbx rfl
                  have p2 := blk_cell (j := 2) hbx rfl
                  clear hGI hrow hrg hbx hbe
                  by_cases hr1 : 0 < r
                  · have HGN : Hid (GIn n2 ss s k p (r - min r 1000000) (G ++ [⟨0, s, k, p, min r 1000000⟩])) := HGI.out.step HPK.out hr1 HFR.out
                    have hmr : 1 ≤ min r 1000000 ∧ min r 1000000 ≤ r := by omega
                    go_wp2_with (at_builtin; refine wpList_append_own_at _ rfl _ _ 41 rfl wc.heap.size 30 iO (.agg #[.int .i64 0, .int .i64 0, .int .i64 0, .int .i64 0, .int .i64 0]) 5 40 Tryd.underlying41 hiO hO0 hO1 hO2 rfl (by decide) _ G.length (oV G) rfl (HRO.out.alloc _) ⟨wr.heap.size, 0, none⟩ 1 1 [.int .i64 0, .int .i64 s, .int .i64 k, .int .i64 p, .int .i64 (min r 1000000)] rfl rfl (World.news_of_block (cs := #[.int .i64 0, .int .i64 s, .int .i64 k, .int .i64 p, .int .i64 (min r 1000000)]) (t := 30) (fr := (0, 0)) (heap_alloc_new wr _)) (by simp [Value.oneCell']) (by unfold maxLen; omega) (by omega) (by have := HBe.out.size; simp; omega) ?_; intro v' w6 hown6 hgrow6 _ _)
                    go_roundw
                    case rel =>
                      refine ⟨r - min r 1000000, _, rfl, by omega, by omega, HGN.out, ?_, (HRG.out.alloc _).kept hgrow6 (rngs_row HRG.out HRO.out).1 (rngs_row HRG.out HRO.out).2, ?_, (HBe.out.alloc HBe.out.size _).grown hgrow6 (by have := HBe.out.size; simp; omega) (fun q hq => (HRO.out.lt q hq).1)⟩
                      · rw [oV_snoc, List.length_append, List.length_singleton]
                        exact hown6
                      · have hlt := lt_of_block HBX.out
                        refine (hgrow6.block kb (by simp; omega) (fun e => owns_type HRO.out HBX.out (by decide) e.symm)).trans ?_
                        exact blk_below HBX.out (bel1 wr _) (Nat.le_refl _)
                    case measure => simp [intOf]; omega
                  · obtain rfl : r = 0 := by omega
                    go_wp2_with fail
                    go_roundw
                    case rel => exact ⟨_, cnt2, ss ++ [(s, k, p)], G, HRG.out, HC2.out, HGI.out.done rfl, HRO.out, HBe.out⟩
                    case measure => rw [HRG.out.left_eq, HRW.out.left_eq]; exact HLT.out
    · obtain rfl : i = len := by omega
      go_wp2_with fail
      go_ret
      exact ⟨rfl, HB.out.bel⟩
end Go.Proofs.YtkfmljokenclaabDoor
