/-
  What the program's points returns of a map of lots, over this seat's translation. Conditions stand in the theorem: which lots the map holds, and that they are of at most 1000 orders that count.
-/
import Derived.Test.YtjdkagafdnchhaaGreatDoorLK
import Derived.Test.YtjdkagafdnchhaaGreatDoorRows
import Derived.ProofKit
import Derived.OpenShut
import Derived.Deep.Fields
import Derived.Deep.RegionWith
import Derived.Deep.CutRange
import Derived.Test.YtjdkagafdnchhaaGreatDoorLH
namespace Go.Proofs.YtjdkagafdnchhaaGreatDoor
open Go.RowKit

theorem Tryz.infoCq : (Tryz.prog.info? 189).map (fun i => (i.zero, i.size, i.bytes)) = some (some (.agg #[.int .i64 0, .int .i64 0, .int .i64 0]), 3, 24) := by kernel_rfl
theorem lots_of {D : DataW Unit} {F : List Ord} {more : Int} (h : LotD D F more) {kl : Lit} {x : Int} (hk : kl = .int .i64 x) {c : Int × Int} {y : DataW Unit × List MemPlace} (hv : lotR (.agg #[.int .i64 c.1, .int .i64 c.2]) = some y) (hat : ∀ zd, D.atKey kl zd = y.1) : c.1 = sumQ (limBB x) F ∧ c.2 = sumQ (limSB x) F := by
  subst hk
  have h1 := h.1 x
  rw [hat] at h1
  rw [lotR_mk] at hv
  cases hv
  exact lotE_inj h1
theorem prices_of {D : DataW Unit} {F : List Ord} {more : Int} (h : LotD D F more) {left : Lit → Bool} {ss : List Int} (hC : CollectedI D left ss) (hl : ∀ kl, left kl = false) : ss.Nodup ∧ ∀ p, p ∈ ss ↔ p ∈ pricesO F more :=
  ⟨hC.1, fun p => by rw [hC.2 p, h.2 p, hl]; simp⟩
theorem nodup_perm {D : DataW Unit} {F : List Ord} {more : Int} (h : LotD D F more) {left : Lit → Bool} {ss : List Int} (hC : CollectedI D left ss) (hl : ∀ kl, left kl = false) {w : World} {B n : Nat} (ho : w.ownsMap Tryz.prog 3 lotR B n D) {tt : List Int} (hp : tt.Perm (intKeys D)) : (sortI tt).Pairwise (· < ·) ∧ (∀ p, p ∈ sortI tt ↔ p ∈ pricesO F more) ∧ ∀ p ∈ sortI tt, (Lit.int .i64 p).wf = true := by
  have h1 := hC.perm ho Tryz.cu_keyInt Tryz.underlying3 hl
  have h2 : tt.Nodup := (hp.trans h1.symm).nodup_iff.2 hC.1
  refine ⟨sorted_rises h2, fun p => ?_, fun p hp' => ?_⟩
  · rw [sortI_mem, (hp.trans h1.symm).mem_iff]; exact (prices_of h hC hl).2 p
  · rw [sortI_mem, hp.mem_iff] at hp'
    exact intKeys_wf ho Tryz.underlying3 p hp'

theorem fld0 (a b : Int) (W : World) : (Instr.field 193 (.agg #[.int .i64 a, .int .i64 b]) 0).run Tryz.prog W = .ok (.int .i64 a) W := by kernel_rfl
theorem fld1 (a b : Int) (W : World) : (Instr.field 193 (.agg #[.int .i64 a, .int .i64 b]) 1).run Tryz.prog W = .ok (.int .i64 b) W := by kernel_rfl
theorem row_other {w w' : World} {base : Nat} {e : TypeId} {size : Nat} {v : Value} {n : Nat} {xs : List Value} {row : Option Nat} (h : w.ownsRow base e size v n xs) (hg : w.grownBy w' row) (hne : ∀ k, v.ownBlock = some k → row ≠ some k) : w'.ownsRow base e size v n xs := by
  refine ⟨h.1, h.2.imp id (fun ⟨g, cap, cur, e1, hb, hh, r⟩ => ⟨g, cap, cur, e1, hb, (hg.block g (lt_of_block hh) (fun e2 => hne g (by rw [e1]; rfl) e2.symm)).trans hh, r⟩)⟩
/-- rows of two types lie in two blocks -/
theorem row_types {w : World} {base base' : Nat} {e e' : TypeId} {size size' : Nat} {v v' : Value} {n n' : Nat} {xs xs' : List Value} (h : w.ownsRow base e size v n xs) (h' : w.ownsRow base' e' size' v' n' xs') (ht : e ≠ e') : ∀ k, v.ownBlock = some k → v'.ownBlock ≠ some k := fun k hv hv' => by
  rcases h.2 with ⟨rfl, _⟩ | ⟨g, cap, cur, rfl, _, hh, _⟩
  · simp [Value.ownBlock] at hv
  · rcases h'.2 with ⟨rfl, _⟩ | ⟨g', cap', cur', rfl, _, hh', _⟩
    · simp [Value.ownBlock] at hv'
    · simp [Value.ownBlock] at hv hv'
      subst hv
      subst hv'
      rw [hh] at hh'
      simp at hh'
      exact ht hh'.2

set_option maxRecDepth 4000 in
set_option maxHeartbeats 4000000 in
theorem cuPoints (B : Nat) (F : List Ord) (more : Int) (w : World) (hL : LotsAt w B F more) (hF : ∀ o ∈ F, okO o = true) (hl : F.length ≤ 1000) :
    Calls Tryz.prog 128 #[.map (some B), .agg #[.int .i64 (sumQ mkBB F), .int .i64 (sumQ mkSB F)]] w fun e w' => ∃ (v' : Value) (xs : List Int), e = .returned v' ∧ xs.Pairwise (· < ·) ∧ (∀ p, p ∈ xs ↔ p ∈ pricesO F more) ∧ w'.ownsRow w.heap.size 189 3 v' (ptsX xs F).length (ptV (ptsX xs F)) ∧ Below w.heap.size w w' := by
  obtain ⟨iP, hiP, hP0, hP1, hP2⟩ := info_parts Tryz.infoCq
  have HL : Hid (LotsAt w B F more) := hL
  have HF : Hid (∀ o ∈ F, okO o = true) := hF
  obtain ⟨D, ho, hD, hLD⟩ := hL
  have HO : Hid (w.ownsMap Tryz.prog 3 lotR B (F.length + 1) D) := ho
  have HD : Hid (LotD D F more) := hLD
  have hsz := ho.size_le
  have hmB := sumQ_small (q := mkBB) hF hl
  have hmS := sumQ_small (q := mkSB) hF hl
  clear ho hD hLD hF
  go_enter Tryz.func128, Tryz.ntmps128
  go_wp2_with fail
  go_quiet (fail)
  have hbW : Below w.heap.size w ((w.alloc (.cells #[.int .i64 (sumQ mkBB F), .int .i64 (sumQ mkSB F)] 193)).drewN nq) := below_drewN (cu_bel1 w _) _
  have HBW : Hid (Below w.heap.size w ((w.alloc (.cells #[.int .i64 (sumQ mkBB F), .int .i64 (sumQ mkSB F)] 193)).drewN nq)) := hbW
  have HOW : Hid (((w.alloc (.cells #[.int .i64 (sumQ mkBB F), .int .i64 (sumQ mkSB F)] 193)).drewN nq).ownsMap Tryz.prog 3 lotR B (F.length + 1) D) := by
    obtain ⟨es, clock, e1, e2, e3, e4⟩ := HO.out
    exact ⟨es, clock, (hbW.block B HO.out.lt).trans e1, e2, e3, e4⟩
  clear hbW
  generalize (w.alloc (.cells #[.int .i64 (sumQ mkBB F), .int .i64 (sumQ mkSB F)] 193)).drewN nq = W at HBW HOW ⊢
  have hM : sumQ mkBB F = sumQ mkBB F + sumX limBB [] F := by rw [sumX_nil]; omega
  have HM : Hid (sumQ mkBB F + sumX limBB [] F = sumQ mkBB F) := hM.symm
  clear hM
  go_wp2_with (first | (at_range; refine wpList_range_own _ rfl _ 194 rfl 3 193 Tryz.cu_keyInt Tryz.underlying194 _ B (F.length + 1) _ rfl HOW.out ?_; intro w0 hrg0 hg0 hs0) | go_in)
  go_frame
  have HRG : Hid (w0.ranges Tryz.prog 3 lotR B W.heap.size (F.length + 1) D (Maps.has D) (Maps.size D)) := hrg0
  have HB0 : Hid (Below w.heap.size w w0) := HBW.out.grown hg0 HBW.out.size (fun q hq => by cases hq)
  clear hrg0 hg0 hs0
  go_loopw [5] (fun v wr => ∃ (left : Lit → Bool) (cnt : Nat) (ss : List Int), v = .int .i64 (sumQ mkBB F + sumX limBB ss F) ∧ wr.ranges Tryz.prog 3 lotR B W.heap.size (F.length + 1) D left cnt ∧ CollectedI D left ss ∧ Below w.heap.size w wr) (fun _ wr => wr.rangeLeft B W.heap.size)
  case atStart => exact ⟨_, _, [], by rw [HM.out], HRG.out, CollectedI.start D, HB0.out⟩
  case round =>
    obtain ⟨left, cnt, ss, rfl, hrg, hC, hb⟩ := hrel
    have HRW : Hid (wr.ranges Tryz.prog 3 lotR B W.heap.size (F.length + 1) D left cnt) := hrg
    have HC : Hid (CollectedI D left ss) := hC
    have HB : Hid (Below w.heap.size w wr) := hb
    have hbs : 0 ≤ sumX limBB ss F ∧ sumX limBB ss F ≤ 1000000000 := by rw [sumB_is hC.1]; exact sumQ_small HF.out hl
    clear hrg hC hb HRG HB0 HM
    go_wp2_with (first | (at_next; refine wpList_next_ranges _ rfl _ rfl 3 Tryz.cu_keyInt lotR (Value.int .i64) (fun c : Int × Int => .agg #[.int .i64 c.1, .int .i64 c.2]) (fun key kl hk => by obtain ⟨x, hx, _⟩ := Maps.keyOf_i64 Tryz.underlying3 hk; exact ⟨x, hx⟩) (fun v y hv => by obtain ⟨a, b, hx, _⟩ := lotR_shape hv; exact ⟨(a, b), hx⟩) B W.heap.size (F.length + 1) _ _ _ rfl HRW.out ?_ ?_) | go_in)
    · intro hc0 hl0
      have HOr : Hid (wr.ownsMap Tryz.prog 3 lotR B (F.length + 1) D) := HRW.out.owns
      have HPR : Hid (ss.Nodup ∧ ∀ p, p ∈ ss ↔ p ∈ pricesO F more) := prices_of HD.out HC.out hl0
      have HNP : Hid (∀ {W3 : World}, W3.ownsMap Tryz.prog 3 lotR B (F.length + 1) D → ∀ {tt : List Int}, tt.Perm (intKeys D) → (sortI tt).Pairwise (· < ·) ∧ (∀ p, p ∈ sortI tt ↔ p ∈ pricesO F more) ∧ ∀ p ∈ sortI tt, (Lit.int .i64 p).wf = true) := fun hW3 _ hp => nodup_perm HD.out HC.out hl0 hW3 hp
      clear hc0 hl0 HRW HC
      go_wp2_with (first | (at_len; refine wpList_len_own _ rfl _ 194 rfl 3 193 Tryz.underlying194 _ B (F.length + 1) D rfl HOr.out ?_) | (at_make; refine wpList_make_own _ rfl _ _ 127 rfl wr.heap.size 189 iP (.agg #[.int .i64 0, .int .i64 0, .int .i64 0]) 3 Tryz.underlying127 hiP hP0 hP1 _ _ _ (Maps.size D) rfl rfl rfl (by rw [hP2]; omega) (by unfold maxLen; omega) (Nat.le_refl _) ?_; intro w3 hown3 hg3))
      refine (keysCall (some B) w3).mono ?_
      rintro e w4 ⟨rfl, hw4⟩
      subst hw4
      have HB3 : Hid (Below w.heap.size w w3) := HB.out.grown hg3 HB.out.size (fun q hq => by cases hq)
      have HO3 : Hid (w3.ownsMap Tryz.prog 3 lotR B (F.length + 1) D) := HOr.out.kept hg3 (by simp)
      have HW3 : Hid (w3.ownsRow w.heap.size 189 3 (.slice (some ⟨wr.heap.size, 0, none⟩) 0 (Maps.size D)) 0 []) := owns_base hown3 HB.out.size
      clear hown3 hg3 HOr
      go_wp2_with fail
      refine (sortedCall B (F.length + 1) D w3 HO3.out (by omega)).mono ?_
      rintro e w5 ⟨v5, tt, rfl, hp, hrow, _, hb5⟩
      obtain ⟨hx1, hx2, hx3⟩ := HNP.out HO3.out hp
      have hb35 : Below w3.heap.size w3 w5 := cu_then (cu_bel1 w3 _) hb5
      have HB5 : Hid (Below w.heap.size w w5) := cu_then HB3.out hb35
      have HW5 : Hid (w5.ownsRow w.heap.size 189 3 (.slice (some ⟨wr.heap.size, 0, none⟩) 0 (Maps.size D)) 0 []) := bk_below HW3.out hb35 (Nat.le_refl _)
      have HI5 : Hid (w5.ownsRow w.heap.size 3 1 v5 (sortI tt).length (ints (sortI tt))) := by
        rw [sortI_length]
        exact owns_base hrow (Nat.le_trans HB3.out.size (cu_bel1 w3 _).size)
      have hxl : (sortI tt).length ≤ 1001 := by
        rw [sortI_length, hp.length_eq]
        have := hsz
        obtain ⟨es, rfl, _⟩ := HO3.out.keysOf
        simp only [intKeys, List.length_map]
        rw [Maps.size_eq] at this
        omega
      have HXR : Hid ((sortI tt).Pairwise (· < ·)) := hx1
      have HXM : Hid (∀ p, p ∈ sortI tt ↔ p ∈ pricesO F more) := hx2
      have HXW : Hid (∀ p ∈ sortI tt, (Lit.int .i64 p).wf = true) := hx3
      clear hp hrow hb5 hb35 hx1 hx2 hx3 HNP HO3 HB3 HW3 HB
      generalize sortI tt = xs at HI5 hxl HXR HXM HXW
      have HSM : Hid (sumX limBB ss F = sumX limBB (xs.drop 0) F) := sumB_same HPR.out.1 (rises_nodup HXR.out) (fun p => by rw [HPR.out.2, HXM.out]) F
      have HNM : Hid (∀ o ∈ F, namesO o = true → o.price ∈ xs) := fun o ho hn => (HXM.out _).2 (pricesO_mem.2 (Or.inr ⟨o, ho, hn, rfl⟩))
      rw [HSM.out]
      have hS0 : sumQ mkSB F = sumQ mkSB F + sumX limSB (xs.take 0) F := by rw [List.take_zero, sumX_nil]; omega
      have HS0 : Hid (sumQ mkSB F = sumQ mkSB F + sumX limSB (xs.take 0) F) := hS0
      clear HSM HPR hS0 hbs
      obtain ⟨ai, ci, rfl, _, _⟩ := bk_shape HI5.out
      go_wp2_with fail
      go_loopw [5, 6, 9, 11, 33] (fun d s o _ i w6 => ∃ k : Nat, k ≤ xs.length ∧ i = .int .i64 k ∧ d = .int .i64 (sumQ mkBB F + sumX limBB (xs.drop k) F) ∧ s = .int .i64 (sumQ mkSB F + sumX limSB (xs.take k) F) ∧ w6.ownsRow w.heap.size 189 3 o (ptsX (xs.take k) F).length (ptV (ptsX (xs.take k) F)) ∧ w6.ownsRow w.heap.size 3 1 (.slice ai xs.length ci) xs.length (ints xs) ∧ Below w.heap.size w w6) (fun _ _ _ _ i _ => xs.length - (RowKit.intOf i).toNat)
      case atStart => exact ⟨0, Nat.zero_le _, rfl, rfl, by rw [← HS0.out], HW5.out, HI5.out, HB5.out⟩
      case round =>
        obtain ⟨k, hk, rfl, rfl, rfl, ho, hi, hb⟩ := hrel
        have HW : Hid (wr.ownsRow w.heap.size 189 3 u9 (ptsX (xs.take k) F).length (ptV (ptsX (xs.take k) F))) := ho
        have HI : Hid (wr.ownsRow w.heap.size 3 1 (.slice ai xs.length ci) xs.length (ints xs)) := hi
        have HB : Hid (Below w.heap.size w wr) := hb
        have hpl : (ptsX (xs.take k) F).length ≤ 1001 := by
          unfold ptsX
          rw [List.length_map, List.length_take]
          omega
        obtain ⟨oao, ocap, rfl, _, _⟩ := bk_shape ho
        clear HW5 HI5 HB5 HS0 ho
        by_cases hk1 : k < xs.length
        · have hlt : (k : Int) < (xs.length : Int) := by omega
          obtain ⟨g, cap', hv, _, _⟩ := hi.form (by omega)
          simp only [Value.slice.injEq, true_and] at hv
          obtain ⟨rfl, rfl⟩ := hv
          have c0 : wr.cell? ⟨g, k, none⟩ = some (.int .i64 (xs.getD k 0)) := (hi.cellAt k (by omega)).trans (ints_at hk1)
          have hmem : xs.getD k 0 ∈ xs := by
            rw [List.getD_eq_getElem?_getD, List.getElem?_eq_getElem hk1]
            exact List.getElem_mem hk1
          have HWP : Hid ((Lit.int .i64 (xs.getD k 0)).wf = true) := HXW.out _ hmem
          have HST : Hid (sumX limSB (xs.take (k + 1)) F = sumX limSB (xs.take k) F + sumQ (limSB (xs.getD k 0)) F) := sumX_take F hk1
          have HDT : Hid (sumX limBB (xs.drop k) F = sumQ (limBB (xs.getD k 0)) F + sumX limBB (xs.drop (k + 1)) F) := sumX_drop F hk1
          have HPT : Hid (ptsX (xs.take (k + 1)) F = ptsX (xs.take k) F ++ [⟨xs.getD k 0, sumQ mkBB F + sumX limBB (xs.drop k) F, sumQ mkSB F + sumX limSB (xs.take k) F + sumQ (limSB (xs.getD k 0)) F⟩]) := by
            rw [ptsX_take F hk1, dem_at HF.out HXR.out HNM.out hk1, ← sup_at HF.out HXR.out HNM.out hk1, HST.out, Int.add_assoc]
            rfl
          have hlk := (HL.out.below hb).look HWP.out
          have hq1 := sumQ_small (q := limBB (xs.getD k 0)) HF.out hl
          have hq2 := sumQ_small (q := limSB (xs.getD k 0)) HF.out hl
          have hq3 : 0 ≤ sumX limBB (xs.drop k) F ∧ sumX limBB (xs.drop k) F ≤ 1000000000 := by
            rw [sumB_is ((rises_nodup HXR.out).sublist (List.drop_sublist ..))]; exact sumQ_small HF.out hl
          have hq4 : 0 ≤ sumX limSB (xs.take k) F ∧ sumX limSB (xs.take k) F ≤ 1000000000 := by
            rw [sumS_is ((rises_nodup HXR.out).sublist (List.take_sublist ..))]; exact sumQ_small HF.out hl
          clear hb hi hmem
          generalize xs.getD k 0 = p at c0 HWP HST HDT HPT hlk hq1 hq2
          generalize hDK : sumX limBB (xs.drop k) F = dk at HDT HPT hq3 ⊢
          generalize hSK : sumX limSB (xs.take k) F = sk at HST HPT hq4 ⊢
          generalize ptsX (xs.take k) F = acc at HPT HW hpl ⊢
          clear hDK hSK
          have hf0 := fld0
          have hf1 := fld1
          go_wp2_with (at_builtin; refine wpList_append_own_at _ rfl _ _ 127 rfl w.heap.size 189 iP (.agg #[.int .i64 0, .int .i64 0, .int .i64 0]) 3 24 Tryz.underlying127 hiP hP0 hP1 hP2 rfl (by decide) _ acc.length (ptV acc) rfl (HW.out.alloc _) ⟨wr.heap.size, 0, none⟩ 1 1 [.int .i64 p, .int .i64 (sumQ mkBB F + dk), .int .i64 (sumQ mkSB F + sk + sumQ (limSB p) F)] rfl rfl (World.news_of_block (cs := #[.int .i64 p, .int .i64 (sumQ mkBB F + dk), .int .i64 (sumQ mkSB F + sk + sumQ (limSB p) F)]) (t := 189) (fr := (0, 0)) (heap_alloc_new wr _)) (by simp [Value.oneCell']) (by unfold maxLen; omega) (by omega) (by have := HB.out.size; simp; omega) ?_; intro v' w6 hown6 hgrow6 _ _; have hb6 := (HB.out.alloc HB.out.size _).grown hgrow6 (by have := HB.out.size; simp; omega) (fun q hq => (HW.out.lt q hq).1); have hlk6 := (HL.out.below hb6).look HWP.out)
          go_roundw
          case rel =>
            refine ⟨k + 1, hk1, by go_num, ?_, ?_, ?_, row_other (HI.out.alloc _) hgrow6 (row_types (w := wr) HI.out HW.out (by decide)), hb6⟩
            · rw [HDT.out]; congr 1; omega
            · rw [HST.out, Int.add_assoc]
            · rw [HPT.out, ptV_snoc, List.length_append, List.length_singleton]
              exact hown6
          case measure => simp [RowKit.intOf]; omega
        · obtain rfl : k = xs.length := by omega
          rw [List.take_length] at HW ⊢
          clear hb hi
          go_wp2_with fail
          go_ret
          exact ⟨_, xs, rfl, HXR.out, HXM.out, HW.out, HB.out⟩
    · intro x ca cb kl yd yp w2 cnt2 hkey hlk hv hat hrg2 hlt hg2 hs2 hen
      obtain ⟨x', hx', hkl, hwx⟩ := Maps.keyOf_i64 Tryz.underlying3 hkey
      obtain rfl : x = x' := by simpa using hx'
      obtain ⟨hc1, hc2⟩ := lots_of (c := (ca, cb)) HD.out hkl hv hat
      replace hc1 : ca = _ := hc1
      replace hc2 : cb = _ := hc2
      subst hc1 hc2 hkl
      have HR2 : Hid (w2.ranges Tryz.prog 3 lotR B W.heap.size (F.length + 1) D (fun z => left z && !z.sameKey (.int .i64 x)) cnt2) := hrg2
      have HC2 : Hid (CollectedI D (fun z => left z && !z.sameKey (.int .i64 x)) (ss ++ [x])) := HC.out.step hlk hat
      have HB2 : Hid (Below w.heap.size w w2) := HB.out.grown hg2 HB.out.size (fun q hq => by cases hq; exact HBW.out.size)
      have HLT : Hid (cnt2 < cnt) := hlt
      have HSX : Hid (sumX limBB (ss ++ [x]) F = sumX limBB ss F + sumQ (limBB x) F) := sumX_snoc _ _ _ _
      have hq1 := sumQ_small (q := limBB x) HF.out hl
      have hq2 := sumQ_small (q := limSB x) HF.out hl
      clear hkey hlk hv hat hrg2 hlt hg2 hs2 hx'
      go_wp2_with fail
      go_roundw
      case rel => exact ⟨_, cnt2, ss ++ [x], by rw [HSX.out, Int.add_assoc], HR2.out.alloc _, HC2.out, HB2.out.alloc HB2.out.size _⟩
      case measure => rw [(HR2.out.alloc _).left_eq, HRW.out.left_eq]; exact HLT.out
end Go.Proofs.YtjdkagafdnchhaaGreatDoor

/-
  An argument that is a list of structs of whole numbers, taken apart: it has no element, or all lie in one block, each number an int. No conditions beyond the reading itself.
-/
namespace Go.Proofs.YtjdkagafdnchhaaGreatDoor
open Go.ChangeShapes Go.WideShapes Go.ChangeAt Go.RowKit Go.Deep

theorem script_open {H : Type} {enc : TypeId × Value → H} {P : Program} {W : World} {t e : TypeId} {fs : Array Field} {a0 : Option Addr} {len cap : Nat} {d : DataW H} {ps : List MemPlace} (ht : P.underlying t = some (.slice e)) (hs : P.underlying e = some (.struct fs))
    (hone : ∀ (i : Nat) (f : Field), fs[i]? = some f → f.offset = i ∧ P.cellsOf f.type = 1) (hC : P.cellsOf e = fs.size) (hint : ∀ (i : Nat) (f : Field), fs[i]? = some f → P.underlying f.type = some (.int .i64)) (hpos : 0 < fs.size)
    (h : DataW.Trod enc P W 0 (fun _ => true) true t (.slice a0 len cap) d ps) :
    len = 0 ∨ ∃ (b off : Nat) (X : Nat → Nat → Int), a0 = some ⟨b, off, none⟩ ∧ ∀ i, i < len → ∀ j, j < fs.size → W.cell? ⟨b, off + i * fs.size + j, none⟩ = some (.int .i64 (X i j)) ∧ (Lit.int .i64 (X i j)).wf = true := by
  obtain ⟨fuel, hf⟩ := h
  rcases open_slice ht hf with ⟨hcs, _⟩ | ⟨a, len', cap', m, n, D, Pl, hcs, _, hl, _, hmm, _, hi⟩
  · simp [Value.cells] at hcs
    exact Or.inl hcs.2.1
  simp [Value.cells] at hcs
  obtain ⟨rfl, rfl, rfl⟩ := hcs
  simp only [if_true] at hmm
  subst hmm
  by_cases h0 : len = 0
  · exact Or.inl h0
  right
  obtain ⟨b, off, spot⟩ := a
  have each : ∀ i, i < len → ∃ f : Nat → Int, ∀ j, j < fs.size → W.cell? (((⟨b, off, spot⟩ : Addr).add (i * fs.size)).add j) = some (.int .i64 (f j)) ∧ (Lit.int .i64 (f j)).wf = true := by
    intro i hil
    obtain ⟨cs, hc, ht'⟩ := hi i (by omega)
    obtain ⟨_, hlen, hcell⟩ := World.cells?_some hc
    rw [hC] at hlen hcell
    obtain ⟨xs, n', _, _, _, hxl, hfl⟩ := DataW.trod_struct hs ht'
    refine choose_lt (p := fun j z => W.cell? (((⟨b, off, spot⟩ : Addr).add (i * fs.size)).add j) = some (.int .i64 z) ∧ (Lit.int .i64 z).wf = true) fun j hj => ?_
    have hfj : fs[j]? = some fs[j] := Array.getElem?_eq_getElem hj
    obtain ⟨ho, hc1⟩ := hone j _ hfj
    have g := hfl j _ hfj
    rw [ho, hc1, take1_drop cs j undef (by omega), List.getElem?_eq_getElem (by omega)] at g
    obtain ⟨z, e1, _, w1⟩ := DataW.trod_int (hint j _ hfj) g
    have h1 := hcell j hj
    rw [List.getElem?_eq_getElem (by omega)] at h1
    simp only [List.cons.injEq, and_true] at e1
    rw [List.getD_eq_getElem?_getD, List.getElem?_eq_getElem (by omega), Option.getD_some] at e1
    exact ⟨z, by rw [h1, e1], w1⟩
  obtain ⟨X, hX⟩ := choose_lt (p := fun i (f : Nat → Int) => ∀ j, j < fs.size → W.cell? (((⟨b, off, spot⟩ : Addr).add (i * fs.size)).add j) = some (.int .i64 (f j)) ∧ (Lit.int .i64 (f j)).wf = true) each
  have hspot : spot = none := by simpa [Addr.add] using World.cell?_spot (hX 0 (by omega) 0 hpos).1
  subst hspot
  refine ⟨b, off, X, rfl, fun i hil j hj => ?_⟩
  have := hX i hil j hj
  rwa [add_plain, add_plain] at this
end Go.Proofs.YtjdkagafdnchhaaGreatDoor

/-
  An argument that is a list of orders, or of points, taken apart: they lie one behind the other from an address on, each number an int. No conditions beyond the reading itself.
-/
namespace Go.Proofs.YtjdkagafdnchhaaGreatDoor
open Go.ChangeShapes Go.WideShapes Go.ChangeAt Go.RowKit

def cuAllInt (P : Program) (fs : Array Field) : Bool := (List.range fs.size).all fun i => match fs[i]? with
  | some f => (match P.underlying f.type with | some (.int .i64) => true | _ => false)
  | none => false
theorem cuHint_of {P : Program} {fs : Array Field} (h : cuAllInt P fs = true) : ∀ (i : Nat) (f : Field), fs[i]? = some f → P.underlying f.type = some (.int .i64) := by
  intro i f hi
  have hlt : i < fs.size := (Array.getElem?_eq_some_iff.1 hi).1
  have := List.all_eq_true.1 h i (List.mem_range.2 hlt)
  simp only [hi] at this
  split at this
  · assumption
  · cases this
def wf64 (z : Int) : Prop := (Lit.int .i64 z).wf = true
/-- each number of an order is an int -/
def Ord.Wf (o : Ord) : Prop := wf64 o.id ∧ wf64 o.side ∧ wf64 o.kind ∧ wf64 o.price ∧ wf64 o.qty
def Pt.Wf (x : Pt) : Prop := wf64 x.price ∧ wf64 x.dem ∧ wf64 x.sup
theorem ords_open {H : Type} {enc : TypeId × Value → H} {W : World} {a0 : Option Addr} {len cap : Nat} {d : DataW H} {ps : List MemPlace} (h : DataW.Trod enc Tryz.prog W 0 (fun _ => true) true 59 (.slice a0 len cap) d ps) :
    ∃ l : List Ord, l.length = len ∧ OrdsIn W a0 l ∧ ∀ o ∈ l, o.Wf := by
  have h' := script_open Tryz.underlying59 Tryz.underlying41 (Deep.hone_of (by kernel_rfl)) (by kernel_rfl) (cuHint_of (by kernel_rfl)) (by decide) h
  rcases h' with rfl | ⟨b, off, X, rfl, hX⟩
  · exact ⟨[], rfl, fun k hk => by simp at hk, fun o ho => by cases ho⟩
  · have hX' : ∀ i, i < len → ∀ j, j < 5 → W.cell? ⟨b, off + i * 5 + j, none⟩ = some (.int .i64 (X i j)) ∧ (Lit.int .i64 (X i j)).wf = true := hX
    refine ⟨(List.range len).map fun i => ⟨X i 0, X i 1, X i 2, X i 3, X i 4⟩, by simp, fun k hk => ?_, fun o ho => ?_⟩
    · have hk' : k < len := by simpa using hk
      have e : oAt ((List.range len).map fun i => (⟨X i 0, X i 1, X i 2, X i 3, X i 4⟩ : Ord)) k = ⟨X k 0, X k 1, X k 2, X k 3, X k 4⟩ := by simp [oAt, hk']
      rw [e]
      exact ⟨b, off, rfl, (hX' k hk' 0 (by decide)).1, (hX' k hk' 1 (by decide)).1, (hX' k hk' 2 (by decide)).1, (hX' k hk' 3 (by decide)).1, (hX' k hk' 4 (by decide)).1⟩
    · obtain ⟨i, hi, rfl⟩ := List.mem_map.1 ho
      have hi' := List.mem_range.1 hi
      exact ⟨(hX' i hi' 0 (by decide)).2, (hX' i hi' 1 (by decide)).2, (hX' i hi' 2 (by decide)).2, (hX' i hi' 3 (by decide)).2, (hX' i hi' 4 (by decide)).2⟩
theorem pts_open {H : Type} {enc : TypeId × Value → H} {W : World} {a0 : Option Addr} {len cap : Nat} {d : DataW H} {ps : List MemPlace} (h : DataW.Trod enc Tryz.prog W 0 (fun _ => true) true 127 (.slice a0 len cap) d ps) :
    ∃ l : List Pt, l.length = len ∧ PtsIn W a0 l ∧ ∀ x ∈ l, x.Wf := by
  have h' := script_open Tryz.underlying127 Tryz.underlying189 (Deep.hone_of (by kernel_rfl)) (by kernel_rfl) (cuHint_of (by kernel_rfl)) (by decide) h
  rcases h' with rfl | ⟨b, off, X, rfl, hX⟩
  · exact ⟨[], rfl, fun k hk => by simp at hk, fun o ho => by cases ho⟩
  · have hX' : ∀ i, i < len → ∀ j, j < 3 → W.cell? ⟨b, off + i * 3 + j, none⟩ = some (.int .i64 (X i j)) ∧ (Lit.int .i64 (X i j)).wf = true := hX
    refine ⟨(List.range len).map fun i => ⟨X i 0, X i 1, X i 2⟩, by simp, fun k hk => ?_, fun o ho => ?_⟩
    · have hk' : k < len := by simpa using hk
      have e : ptAt ((List.range len).map fun i => (⟨X i 0, X i 1, X i 2⟩ : Pt)) k = ⟨X k 0, X k 1, X k 2⟩ := by simp [ptAt, hk']
      rw [e]
      exact ⟨b, off, rfl, (hX' k hk' 0 (by decide)).1, (hX' k hk' 1 (by decide)).1, (hX' k hk' 2 (by decide)).1⟩
    · obtain ⟨i, hi, rfl⟩ := List.mem_map.1 ho
      have hi' := List.mem_range.1 hi
      exact ⟨(hX' i hi' 0 (by decide)).2, (hX' i hi' 1 (by decide)).2, (hX' i hi' 2 (by decide)).2⟩
end Go.Proofs.YtjdkagafdnchhaaGreatDoor

/-
  What the program's Of returns, over this seat's translation. Conditions stand in the theorem: where the orders lie, that they are at most 1000, and that prices are ints.
-/
namespace Go.Proofs.YtjdkagafdnchhaaGreatDoor
open Go.RowKit

/-- the lots that any price suits, in a block of their own -/
def CuMkAt (w : World) (mb : Nat) (a b : Int) : Prop := w.heap[mb]? = some (.cells #[.int .i64 a, .int .i64 b] 193 (0, 0))
theorem CuMkAt.below {w w' : World} {mb : Nat} {a b : Int} (h : CuMkAt w mb a b) (hb : Below w.heap.size w w') : CuMkAt w' mb a b := cu_keep h hb
theorem CuMkAt.set {w : World} {mb : Nat} {a b : Int} (h : CuMkAt w mb a b) (a' b' : Int) : CuMkAt ((w.setCell ⟨mb, 0, none⟩ (.int .i64 a')).setCell ⟨mb, 1, none⟩ (.int .i64 b')) mb a' b' :=
  cu_set (j := 1) _ (cu_set (j := 0) (.int .i64 a') h)
theorem row_set {w : World} {base : Nat} {e t : TypeId} {size : Nat} {v : Value} {n : Nat} {xs : List Value} {mb j : Nat} {vs : Array Value} {u : Value} (h : w.ownsRow base e size v n xs) (hb : w.heap[mb]? = some (.cells vs t (0, 0))) (ht : e ≠ t) : (w.setCell ⟨mb, j, none⟩ u).ownsRow base e size v n xs := by
  refine ⟨h.1, h.2.imp id (fun ⟨g, cap, cur, e1, hg, hh, r⟩ => ⟨g, cap, cur, e1, hg, (Below.heap_setCell _ _ _ _ (fun e2 => ?_)).trans hh, r⟩)⟩
  have e3 : g = mb := e2
  rw [e3, hb] at hh
  simp at hh
  exact ht hh.2.symm
theorem row_map {w : World} {base : Nat} {e : TypeId} {size : Nat} {v : Value} {n : Nat} {xs : List Value} {B : Nat} {l : List Ord} {more : Int} (h : w.ownsRow base e size v n xs) (hL : LotsAt w B l more) : ∀ k, v.ownBlock = some k → (some B : Option Nat) ≠ some k := fun k hk e2 => by
  obtain ⟨D, ⟨es, clock, e1, _⟩, _⟩ := hL
  rcases h.2 with ⟨rfl, _⟩ | ⟨g, cap, cur, rfl, _, hh, _⟩
  · simp [Value.ownBlock] at hk
  · simp [Value.ownBlock] at hk
    injection e2 with e2
    subst hk
    subst e2
    rw [hh] at e1
    simp at e1
theorem and_mkB {o : Ord} {F : List Ord} {k : Nat} (h : k < F.length) (ho : oAt F k = o) (hk : o.kind = 2) : andB o (sumQ mkBB (F.take k)) = sumQ mkBB (F.take (k + 1)) := by
  rw [sumQ_take _ h, ho]
  unfold andB mkBB
  by_cases hs : o.side = 1 <;> simp [hs, hk]
theorem and_mkS {o : Ord} {F : List Ord} {k : Nat} (h : k < F.length) (ho : oAt F k = o) (hk : o.kind = 2) : andS o (sumQ mkSB (F.take k)) = sumQ mkSB (F.take (k + 1)) := by
  rw [sumQ_take _ h, ho]
  unfold andS mkSB
  by_cases hs : o.side = 1 <;> simp [hs, hk]
theorem and_limB {o : Ord} (l : List Ord) (hk : o.kind ≠ 2) : andB o (sumQ (limBB o.price) l) = sumQ (limBB o.price) (l ++ [o]) := by
  rw [sumQ_snoc]
  unfold andB limBB
  by_cases hs : o.side = 1 <;> simp [hs, hk]
theorem and_limS {o : Ord} (l : List Ord) (hk : o.kind ≠ 2) : andS o (sumQ (limSB o.price) l) = sumQ (limSB o.price) (l ++ [o]) := by
  rw [sumQ_snoc]
  unfold andS limSB
  by_cases hs : o.side = 1 <;> simp [hs, hk]
theorem mk_off {F : List Ord} {k : Nat} {q : Ord → Bool} (h : k < F.length) (hq : q (oAt F k) = false) : sumQ q (F.take (k + 1)) = sumQ q (F.take k) := sumQ_no h hq
theorem cuTake_snoc {F : List Ord} {k : Nat} (h : k < F.length) : F.take (k + 1) = F.take k ++ [oAt F k] := by rw [List.take_succ_eq_append_getElem h, oAt_eq h]
theorem names_of {o : Ord} (h : okO o = true) (hk : o.kind ≠ 2) : namesO o = true := by unfold namesO; rw [h]; simp [hk]
/-- the map as it is made -/
theorem lots_made (w : World) (o : Obj) (more : Int) (hm : ¬ 0 < more) : LotsAt ((w.alloc o).alloc (.map #[] 0)) (w.heap.size + 1) [] more := by
  have h := World.ownsMap_made (w.alloc o) Tryz.prog 3 lotR
  rw [show (w.alloc o).heap.size = w.heap.size + 1 by simp] at h
  exact ⟨_, h.mono (by simp), ⟨_, rfl⟩, LotD.start hm⟩
theorem lots_more (w : World) (o : Obj) {more : Int} (hm : 0 < more) (hw : (Lit.int .i64 more).wf = true) :
    ∃ w', (Instr.mapUpdate 194 (.map (some (w.heap.size + 1))) (.int .i64 more) (.agg #[.int .i64 0, .int .i64 0])).run Tryz.prog ((w.alloc o).alloc (.map #[] 0)) = .ok () w' ∧ LotsAt w' (w.heap.size + 1) [] more ∧ ((w.alloc o).alloc (.map #[] 0)).grownBy w' (some (w.heap.size + 1)) := by
  have h := World.ownsMap_made (w.alloc o) Tryz.prog 3 lotR
  rw [show (w.alloc o).heap.size = w.heap.size + 1 by simp] at h
  obtain ⟨w', hr, ho', hg⟩ := h.update Tryz.cu_keyInt Tryz.underlying194 (by unfold maxLen; omega) (Tryz.cu_keyIs hw) (lotR_mk _ _)
  exact ⟨w', hr, ⟨_, ho'.mono (by simp), ⟨_, rfl⟩, LotD.more hm⟩, hg⟩

set_option maxRecDepth 4000 in
set_option maxHeartbeats 4000000 in
theorem cuOfP (a : Option Addr) (cap : Nat) (l : List Ord) (more : Int) (w : World) (h : OrdsIn w a l) (hl : l.length ≤ 1000) (hw : ∀ o ∈ l, wf64 o.price) (hm : wf64 more) :
    Calls Tryz.prog 72 #[.slice a l.length cap, .int .i64 more] w fun e w' => ∃ v', e = .returned v' ∧ w'.ownsRow w.heap.size 189 3 v' (curveL l more).length (ptV (curveL l more)) ∧ Below w.heap.size w w' := by
  have HA : Hid (OrdsIn w a l) := h
  have HWF : Hid (∀ o ∈ l, wf64 o.price) := hw
  have hmm := @run_makeMap Tryz.prog
  clear h hw
  go_enter Tryz.func72, Tryz.ntmps72
  go_upto_if 11 with fail
  go_cut [] from 10 to 14 (fun wc => LotsAt wc (w.heap.size + 1) [] more ∧ CuMkAt wc w.heap.size 0 0 ∧ Below w.heap.size w wc)
  case first =>
    have hb2 : Below w.heap.size w ((w.alloc (.cells #[.int .i64 0, .int .i64 0] 193)).alloc (.map #[] 0)) := cu_then (cu_bel1 w _) (cu_bel1 _ _)
    have hk2 : CuMkAt ((w.alloc (.cells #[.int .i64 0, .int .i64 0] 193)).alloc (.map #[] 0)) w.heap.size 0 0 := cu_keep (heap_alloc_new w _) (cu_bel1 _ _)
    by_cases hmp : 0 < more
    · obtain ⟨w1, r1, hL1, hg1⟩ := lots_more w (.cells #[.int .i64 0, .int .i64 0] 193) hmp hm
      have HL1 : Hid (LotsAt w1 (w.heap.size + 1) [] more) := hL1
      have HK1 : Hid (CuMkAt w1 w.heap.size 0 0) := (hg1.block w.heap.size (lt_of_block hk2) (by simp)).trans hk2
      have HB1 : Hid (Below w.heap.size w w1) := hb2.grown hg1 (by simp; omega) (fun q hq => by injection hq with hq; omega)
      clear hL1 hg1 hb2 hk2
      go_wp2_with fail
      go_meet
      exact ⟨HL1.out, HK1.out, HB1.out⟩
    · have HL1 : Hid (LotsAt ((w.alloc (.cells #[.int .i64 0, .int .i64 0] 193)).alloc (.map #[] 0)) (w.heap.size + 1) [] more) := lots_made w _ more hmp
      have HB1 : Hid (Below w.heap.size w ((w.alloc (.cells #[.int .i64 0, .int .i64 0] 193)).alloc (.map #[] 0))) := hb2
      have HK1 : Hid (CuMkAt ((w.alloc (.cells #[.int .i64 0, .int .i64 0] 193)).alloc (.map #[] 0)) w.heap.size 0 0) := hk2
      clear hb2 hk2
      go_wp2_with fail
      go_meet
      exact ⟨HL1.out, HK1.out, HB1.out⟩
  case rest =>
    obtain ⟨hL, hK, hb⟩ := hcut
    have HL : Hid (LotsAt wc (w.heap.size + 1) [] more) := hL
    have HK : Hid (CuMkAt wc w.heap.size 0 0) := hK
    have HB : Hid (Below w.heap.size w wc) := hb
    clear hL hK hb hmm
    go_wp2_with fail
    refine (cuKeep a _ l wc (HA.out.below HB.out) hl).mono ?_
    rintro e w2 ⟨v2, rfl, hown, hb2⟩
    have HW2 : Hid (w2.ownsRow w.heap.size 41 5 v2 (l.filter okO).length (oV (l.filter okO))) := owns_base hown HB.out.size
    have HL2 : Hid (LotsAt w2 (w.heap.size + 1) ((l.filter okO).take 0) more) := HL.out.below hb2
    have HK2 : Hid (CuMkAt w2 w.heap.size (sumQ mkBB ((l.filter okO).take 0)) (sumQ mkSB ((l.filter okO).take 0))) := HK.out.below hb2
    have HB2 : Hid (Below w.heap.size w w2) := cu_then HB.out hb2
    have HF : Hid (∀ o ∈ l.filter okO, okO o = true) := fun o ho => (List.mem_filter.1 ho).2
    have HFW : Hid (∀ o ∈ l.filter okO, wf64 o.price) := fun o ho => HWF.out o (List.mem_filter.1 ho).1
    have hfl : (l.filter okO).length ≤ 1000 := Nat.le_trans (List.length_filter_le _ _) hl
    have HCU : Hid (∀ xs : List Int, xs.Pairwise (· < ·) → (∀ p, p ∈ xs ↔ p ∈ pricesO (l.filter okO) more) → ptsX xs (l.filter okO) = curveL l more) := fun xs h1 h2 => ptsX_curve h1 h2
    obtain ⟨ao, vc, rfl, _, _⟩ := bk_shape hown
    clear hown hb2 HL HK HB HA HWF
    generalize l.filter okO = F at HW2 HL2 HK2 HF HFW hfl HCU ⊢
    go_wp2_with fail
    go_loopw [18] (fun i wr => ∃ k : Nat, k ≤ F.length ∧ i = .int .i64 k ∧ CuMkAt wr w.heap.size (sumQ mkBB (F.take k)) (sumQ mkSB (F.take k)) ∧ LotsAt wr (w.heap.size + 1) (F.take k) more ∧ wr.ownsRow w.heap.size 41 5 (.slice ao F.length vc) F.length (oV F) ∧ Below w.heap.size w wr) (fun i _ => F.length - (RowKit.intOf i).toNat)
    case atStart => exact ⟨0, Nat.zero_le _, rfl, HK2.out, HL2.out, HW2.out, HB2.out⟩
    case round =>
      obtain ⟨k, hk, rfl, hmk, hlo, hro, hb⟩ := hrel
      have HK : Hid (CuMkAt wr w.heap.size (sumQ mkBB (F.take k)) (sumQ mkSB (F.take k))) := hmk
      have HL : Hid (LotsAt wr (w.heap.size + 1) (F.take k) more) := hlo
      have HR : Hid (wr.ownsRow w.heap.size 41 5 (.slice ao F.length vc) F.length (oV F)) := hro
      have HB : Hid (Below w.heap.size w wr) := hb
      clear HK2 HL2 HW2 HB2 hmk hlo hb
      by_cases hk1 : k < F.length
      · have hlt : (k : Int) < (F.length : Int) := by omega
        obtain ⟨g, cap', hv, d0, d1, d2, d3, d4⟩ := row_order hro hk1
        simp only [Value.slice.injEq, true_and] at hv
        obtain ⟨rfl, rfl⟩ := hv
        have HOK : Hid (okO (oAt F k) = true) := HF.out _ (by rw [oAt_eq hk1]; exact List.getElem_mem hk1)
        have HPW : Hid (wf64 (oAt F k).price) := HFW.out _ (by rw [oAt_eq hk1]; exact List.getElem_mem hk1)
        have HTS : Hid (F.take (k + 1) = F.take k ++ [oAt F k]) := cuTake_snoc hk1
        have hqb := (okO_qty HOK.out).2
        have hs1 := sumQ_small (q := mkBB) (ok_take HF.out k) (by rw [List.length_take]; omega)
        have hs2 := sumQ_small (q := mkSB) (ok_take HF.out k) (by rw [List.length_take]; omega)
        have HMB : Hid ((oAt F k).kind = 2 → andB (oAt F k) (sumQ mkBB (F.take k)) = sumQ mkBB (F.take (k + 1))) := and_mkB hk1 rfl
        have HMS : Hid ((oAt F k).kind = 2 → andS (oAt F k) (sumQ mkSB (F.take k)) = sumQ mkSB (F.take (k + 1))) := and_mkS hk1 rfl
        have HNB : Hid ((oAt F k).kind ≠ 2 → sumQ mkBB (F.take (k + 1)) = sumQ mkBB (F.take k)) := fun e => sumQ_no hk1 (by unfold mkBB; simp [e])
        have HNS : Hid ((oAt F k).kind ≠ 2 → sumQ mkSB (F.take (k + 1)) = sumQ mkSB (F.take k)) := fun e => sumQ_no hk1 (by unfold mkSB; simp [e])
        have htl : (F.take k).length ≤ 1000 := by rw [List.length_take]; omega
        have HOT : Hid (∀ o ∈ F.take k, okO o = true) := ok_take HF.out k
        clear hro
        generalize oAt F k = x at d0 d1 d2 d3 d4 HOK HPW HTS hqb HMB HMS HNB HNS
        have hX : OdBox (wr.alloc (.cells #[.int .i64 x.id, .int .i64 x.side, .int .i64 x.kind, .int .i64 x.price, .int .i64 x.qty] 41)) wr.heap.size x := heap_alloc_new wr _
        have hbA := cu_bel1 wr (.cells #[.int .i64 x.id, .int .i64 x.side, .int .i64 x.kind, .int .i64 x.price, .int .i64 x.qty] 41)
        by_cases hkd : x.kind = 2
        · have hkb : (x.kind == 2) = true := beq_iff_eq.2 hkd
          have m0 := cu_blk (j := 0) (HK.out.below hbA) rfl
          have m1 := cu_blk (j := 1) (HK.out.below hbA) rfl
          have HLS : Hid (LotsAt wr (w.heap.size + 1) (F.take (k + 1)) more) := by rw [HTS.out]; exact HL.out.same hkd
          have HM1 : Hid (andB x (sumQ mkBB (F.take k)) = sumQ mkBB (F.take (k + 1))) := HMB.out hkd
          have HM2 : Hid (andS x (sumQ mkSB (F.take k)) = sumQ mkSB (F.take (k + 1))) := HMS.out hkd
          clear hX HMB HMS HNB HNS HL hkd
          generalize sumQ mkBB (F.take k) = sb at hs1 HK m0 HM1
          generalize sumQ mkSB (F.take k) = ssl at hs2 HK m1 HM2
          go_wp2_with fail
          have HX : Hid (OdBox (wr.alloc (.cells #[.int .i64 x.id, .int .i64 x.side, .int .i64 x.kind, .int .i64 x.price, .int .i64 x.qty] 41)) wr.heap.size x) := heap_alloc_new wr _
          have HBA : Hid (Below wr.heap.size wr (wr.alloc (.cells #[.int .i64 x.id, .int .i64 x.side, .int .i64 x.kind, .int .i64 x.price, .int .i64 x.qty] 41))) := hbA
          clear hbA
          generalize wr.alloc (.cells #[.int .i64 x.id, .int .i64 x.side, .int .i64 x.kind, .int .i64 x.price, .int .i64 x.qty] 41) = V at m0 m1 HX HBA ⊢
          refine (cuAnd sb ssl x V (by omega) (by omega) (by omega)).mono ?_
          rintro e w5 ⟨rfl, hb5⟩
          have hk5 := (HK.out.below HBA.out).below hb5
          have HK5 : Hid (CuMkAt w5 w.heap.size sb ssl) := hk5
          have n0 := cu_blk (j := 0) hk5 rfl
          have n1 := cu_blk (j := 1) hk5 rfl
          have f0 := cu_free (j := 0) hk5
          have f1 := cu_free (j := 1) hk5
          have hb05 := cu_then HBA.out hb5
          have HL5 : Hid (LotsAt w5 (w.heap.size + 1) (F.take (k + 1)) more) := HLS.out.below hb05
          have HR5 : Hid (w5.ownsRow w.heap.size 41 5 (.slice (some ⟨g, 0, none⟩) F.length vc) F.length (oV F)) := bk_below HR.out hb05 (Nat.le_refl _)
          have HB5 : Hid (Below w.heap.size w w5) := cu_then HB.out hb05
          clear hk5 hb5 hb05 m0 m1 HX HBA HLS HK HR HB
          rw [HM1.out, HM2.out]
          go_wp2_with fail
          go_roundw
          case rel =>
            refine ⟨k + 1, hk1, by go_num, HK5.out.set _ _, HL5.out.block ?_, row_set (row_set HR5.out HK5.out (by decide)) (cu_set (j := 0) _ HK5.out) (by decide), (HB5.out.setCell (Nat.le_refl _) _).setCell (Nat.le_refl _) _⟩
            exact (Below.heap_setCell _ _ _ _ (by simp)).trans (Below.heap_setCell _ _ _ _ (by simp))
          case measure => simp [RowKit.intOf]; omega
        · have hkb : (x.kind == 2) = false := beq_eq_false_iff_ne.2 hkd
          have HM1 : Hid (sumQ mkBB (F.take (k + 1)) = sumQ mkBB (F.take k)) := HNB.out hkd
          have HM2 : Hid (sumQ mkSB (F.take (k + 1)) = sumQ mkSB (F.take k)) := HNS.out hkd
          have hq1 := sumQ_small (q := limBB x.price) HOT.out htl
          have hq2 := sumQ_small (q := limSB x.price) HOT.out htl
          have HA1 : Hid (andB x (sumQ (limBB x.price) (F.take k)) = sumQ (limBB x.price) (F.take k ++ [x])) := and_limB _ hkd
          have HA2 : Hid (andS x (sumQ (limSB x.price) (F.take k)) = sumQ (limSB x.price) (F.take k ++ [x])) := and_limS _ hkd
          have HNM : Hid (namesO x = true) := names_of HOK.out hkd
          clear HMB HMS HNB HNS
          go_upto_region 10 with fail
          have HX : Hid (OdBox (wr.alloc (.cells #[.int .i64 x.id, .int .i64 x.side, .int .i64 x.kind, .int .i64 x.price, .int .i64 x.qty] 41)) wr.heap.size x) := hX
          have HBA : Hid (Below wr.heap.size wr (wr.alloc (.cells #[.int .i64 x.id, .int .i64 x.side, .int .i64 x.kind, .int .i64 x.price, .int .i64 x.qty] 41))) := hbA
          have HLV : Hid (LotsAt (wr.alloc (.cells #[.int .i64 x.id, .int .i64 x.side, .int .i64 x.kind, .int .i64 x.price, .int .i64 x.qty] 41)) (w.heap.size + 1) (F.take k) more) := HL.out.below hbA
          clear hX hbA d0 d1 d2 d3 d4
          generalize wr.alloc (.cells #[.int .i64 x.id, .int .i64 x.side, .int .i64 x.kind, .int .i64 x.price, .int .i64 x.qty] 41) = V at HX HBA HLV ⊢
          generalize wr.heap.size = xb at HX ⊢
          have hlk : (Instr.lookup 194 (.map (some (w.heap.size + 1))) (.int .i64 x.price) false).run Tryz.prog V.drew = .ok (.agg #[.int .i64 (sumQ (limBB x.price) (F.take k)), .int .i64 (sumQ (limSB x.price) (F.take k))]) V.drew := (HLV.out.block (w' := V.drew) rfl).look HPW.out
          have x0 := cu_blk (j := 0) HX.out rfl
          have x1 := cu_blk (j := 1) HX.out rfl
          have x2 := cu_blk (j := 2) HX.out rfl
          have x3 := cu_blk (j := 3) HX.out rfl
          have x4 := cu_blk (j := 4) HX.out rfl
          go_region_with (go_at_call 127; refine (cuAnd _ _ x _ ?_ ?_ ?_).mono ?_; (omega); (omega); (omega); rintro e w5 ⟨rfl, hb5⟩; rw [HA1.out, HA2.out]; (have y3 := cu_blk (j := 3) (cu_keep (w := V.drew) HX.out hb5) rfl; obtain ⟨w6, hr6, hL6, hg6⟩ := LotsAt.store (HLV.out.block (w' := w5) (hb5.block _ HLV.out.lt)) HNM.out HPW.out htl))
          all_goals
            have HL6 : Hid (LotsAt w6 (w.heap.size + 1) (F.take (k + 1)) more) := by rw [HTS.out]; exact hL6
            have hk5 := (HK.out.below HBA.out).below (w := V) (w' := V.drew) (Below.refl _ V).drew
            have hk6 := hk5.below hb5
            have HK6 : Hid (CuMkAt w6 w.heap.size (sumQ mkBB (F.take k)) (sumQ mkSB (F.take k))) := (hg6.block w.heap.size (lt_of_block hk6) (by simp)).trans hk6
            have hr5 := bk_below HR.out (cu_then HBA.out (cu_then (w1 := V.drew) (Below.refl _ V).drew hb5)) (Nat.le_refl _)
            have HR6 : Hid (w6.ownsRow w.heap.size 41 5 (.slice (some ⟨g, 0, none⟩) F.length vc) F.length (oV F)) := row_other hr5 hg6 (row_map hr5 (HLV.out.block (w' := w5) (hb5.block _ HLV.out.lt)))
            have hb05 := cu_then HB.out (cu_then HBA.out (cu_then (w1 := V.drew) (Below.refl _ V).drew hb5))
            have HB6 : Hid (Below w.heap.size w w6) := hb05.grown hg6 hb05.size (fun q hq => by injection hq with hq; omega)
            clear hb05 hr5 hk6 hk5 hL6 hg6 hr6 y3 hb5 x0 x1 x2 x3 x4 hlk
            go_wp2_with fail
            go_roundw
            case rel => exact ⟨k + 1, hk1, by go_num, by rw [HM1.out, HM2.out]; exact HK6.out, HL6.out, HR6.out, HB6.out⟩
            case measure => simp [RowKit.intOf]; omega
      · obtain rfl : k = F.length := by omega
        rw [List.take_length] at HK HL
        have m0 := cu_blk (j := 0) HK.out rfl
        have m1 := cu_blk (j := 1) HK.out rfl
        clear hro
        go_wp2_with fail
        refine (cuPoints _ F more wr HL.out HF.out hfl).mono ?_
        rintro e w7 ⟨v7, xs, rfl, hx1, hx2, hown7, hb7⟩
        have HO7 : Hid (w7.ownsRow w.heap.size 189 3 v7 (curveL l more).length (ptV (curveL l more))) := by
          rw [← HCU.out xs hx1 hx2]
          exact owns_base hown7 HB.out.size
        have HB7 : Hid (Below w.heap.size w w7) := cu_then HB.out hb7
        clear hx1 hx2 hown7 hb7 m0 m1
        go_wp2_with fail
        go_ret
        exact ⟨_, rfl, HO7.out, HB7.out⟩
theorem cuOf (a : Option Addr) (cap : Nat) (l : List Ord) (more : Int) (w : World) (h : OrdsIn w a l) (hl : l.length ≤ 1000) (hw : ∀ o ∈ l, o.Wf) (hm : wf64 more) :
    Calls Tryz.prog 72 #[.slice a l.length cap, .int .i64 more] w fun e w' => ∃ v', e = .returned v' ∧ w'.ownsRow w.heap.size 189 3 v' (curveL l more).length (ptV (curveL l more)) ∧ Below w.heap.size w w' := cuOfP a cap l more w h hl (fun o ho => (hw o ho).2.2.2.1) hm
end Go.Proofs.YtjdkagafdnchhaaGreatDoor

/-
  Which point the program's Choose chooses, as plain lists: those of the greatest number, step by step, and the first of them; and that it is the document's. No program is named here.
-/
namespace Go.Proofs.YtjdkagafdnchhaaGreatDoor
open Go.RowKit

/-- the greatest of numbers, from one on -/
def topF (f : Pt → Int) (a : Int) (l : List Pt) : Int := l.foldl (fun m x => max m (f x)) a
/-- those of the greatest number, as they stood -/
def mostF (f : Pt → Int) (l : List Pt) : List Pt := l.filter fun x => f x == topF f (f (ptAt l 0)) l
def leastF (f : Pt → Int) (l : List Pt) : List Pt := mostF (fun x => -f x) l
def surB (x : Pt) : Int := x.dem - x.sup
def apB (a b : Int) : Int := max a b - min a b
def lfP (x : Pt) : Int := apB x.dem x.sup
def nearP (around : Int) (x : Pt) : Int := apB x.price around
def upB (x : Pt) : Bool := decide (surB x > 0)
def chDownB (x : Pt) : Bool := decide (surB x < 0)
def allP (q : Pt → Bool) (l : List Pt) : Bool := (((l.filter q).length : Int) == (l.length : Int))
def lastP (around : Int) (l : List Pt) : List Pt :=
  if allP upB l = true then mostF Pt.price l else if allP chDownB l = true then leastF Pt.price l else leastF Pt.price (leastF (nearP around) l)
def nothP (l : List Pt) : Bool := ((l.length : Int) == 0) || decide (trB (ptAt l 0) < 1)
def chooseP (l : List Pt) (around : Int) : Quo :=
  if nothP (mostF trB l) = true then ⟨0, 0, 0⟩ else quoP (ptAt (lastP around (leastF lfP (mostF trB l))) 0)

theorem apB_abs (a b : Int) : apB a b = absI (a - b) := by unfold apB absI; split <;> omega
theorem lfP_is (x : Pt) : lfP x = lfB x := apB_abs _ _
theorem topF_take {f : Pt → Int} {a : Int} {l : List Pt} {k : Nat} (h : k < l.length) : topF f a (l.take (k + 1)) = max (topF f a (l.take k)) (f (ptAt l k)) := foldl_take _ _ h
theorem topF_ge (f : Pt → Int) : ∀ (l : List Pt) (a : Int), a ≤ topF f a l
  | [], a => Int.le_refl _
  | x :: l, a => Int.le_trans (by omega) (topF_ge f l (max a (f x)))
theorem topF_max (f : Pt → Int) : ∀ (l : List Pt) (a : Int) {x : Pt}, x ∈ l → f x ≤ topF f a l
  | y :: l, a, x, h => by
    rw [List.mem_cons] at h
    rcases h with rfl | h
    · exact Int.le_trans (by omega) (topF_ge f l (max a (f x)))
    · exact topF_max f l _ h
theorem topF_is (f : Pt → Int) : ∀ (l : List Pt) (a : Int), topF f a l = a ∨ ∃ x ∈ l, f x = topF f a l
  | [], a => Or.inl rfl
  | y :: l, a => by
    have e : topF f a (y :: l) = topF f (max a (f y)) l := rfl
    rw [e]
    rcases topF_is f l (max a (f y)) with h | ⟨x, hx, h⟩
    · rw [h]
      by_cases hm : f y ≤ a
      · exact Or.inl (by omega)
      · exact Or.inr ⟨y, List.mem_cons_self .., by omega⟩
    · exact Or.inr ⟨x, List.mem_cons_of_mem _ hx, h⟩
theorem mostF_spec (f : Pt → Int) {l : List Pt} (h : 0 < l.length) : ∃ top, mostF f l = l.filter (fun x => f x == top) ∧ (∀ x ∈ l, f x ≤ top) ∧ ∃ x ∈ l, f x = top := by
  refine ⟨topF f (f (ptAt l 0)) l, rfl, fun x hx => topF_max f l _ hx, ?_⟩
  rcases topF_is f l (f (ptAt l 0)) with e | e
  · exact ⟨ptAt l 0, ptAt_mem h, e.symm⟩
  · exact e
theorem mostF_len (f : Pt → Int) (l : List Pt) : (mostF f l).length ≤ l.length := List.length_filter_le _ _
theorem leastF_len (f : Pt → Int) (l : List Pt) : (leastF f l).length ≤ l.length := mostF_len _ _
theorem mostF_mem {f : Pt → Int} {l : List Pt} {x : Pt} (h : x ∈ mostF f l) : x ∈ l := (List.mem_filter.1 h).1
theorem leastF_mem {f : Pt → Int} {l : List Pt} {x : Pt} (h : x ∈ leastF f l) : x ∈ l := mostF_mem h
theorem mostF_pos (f : Pt → Int) {l : List Pt} (h : 0 < l.length) : 0 < (mostF f l).length := by
  obtain ⟨t, e, _, x, hx, h1⟩ := mostF_spec f h
  rw [e]
  exact List.length_pos_of_mem (a := x) (List.mem_filter.2 ⟨hx, by simp [h1]⟩)
theorem lastP_pos (around : Int) {l : List Pt} (h : 0 < l.length) : 0 < (lastP around l).length := by
  unfold lastP
  split
  · exact mostF_pos _ h
  · split
    · exact mostF_pos _ h
    · exact mostF_pos _ (mostF_pos _ h)
theorem lastP_mem {around : Int} {l : List Pt} {x : Pt} (h : x ∈ lastP around l) : x ∈ l := by
  unfold lastP at h
  split at h
  · exact mostF_mem h
  · split at h
    · exact leastF_mem h
    · exact leastF_mem (leastF_mem h)
theorem allP_is (q : Pt → Bool) (l : List Pt) : allP q l = l.all q := by
  induction l with
  | nil => rfl
  | cons x l ih =>
    have hl := List.length_filter_le q l
    by_cases h : q x = true
    · have e : allP q (x :: l) = allP q l := by
        unfold allP; simp only [List.filter_cons, h, if_true, List.length_cons]
        rw [Bool.eq_iff_iff]; simp
      rw [e, ih]; simp [h]
    · have e : allP q (x :: l) = false := by
        unfold allP; simp only [List.filter_cons, h, List.length_cons]
        simp; omega
      rw [e]; simp [h]

/-- the first of those that are asked for -/
theorem head_filter {q : Pt → Bool} : ∀ {l : List Pt}, (∃ x ∈ l, q x = true) → ∃ i, i < l.length ∧ ptAt (l.filter q) 0 = ptAt l i ∧ q (ptAt l i) = true ∧ ∀ j, j < i → q (ptAt l j) = false
  | [], h => by obtain ⟨x, hx, _⟩ := h; cases hx
  | y :: l, h => by
    by_cases hy : q y = true
    · refine ⟨0, by simp, ?_, ?_, fun j hj => by omega⟩
      · simp [ptAt, hy]
      · simpa [ptAt] using hy
    · obtain ⟨x, hx, hq⟩ := h
      rw [List.mem_cons] at hx
      rcases hx with rfl | hx
      · exact absurd hq hy
      · obtain ⟨i, h1, h2, h3, h4⟩ := head_filter (l := l) ⟨x, hx, hq⟩
        refine ⟨i + 1, by simpa using h1, ?_, ?_, fun j hj => ?_⟩
        · rw [List.filter_cons, if_neg hy, h2]; simp [ptAt]
        · simpa [ptAt] using h3
        · cases j with
          | zero => simpa [ptAt] using hy
          | succ j => have := h4 j (by omega); simpa [ptAt] using this

/-- by what one is better than another: two numbers, the first one first -/
def k1P (b s : Bool) (around : Int) (x : Pt) : Int := if b = true then 0 else if s = true then 0 else absI (x.price - around)
def k2P (b : Bool) (x : Pt) : Int := if b = true then -x.price else x.price
theorem better_iff (b s : Bool) (around : Int) (p x : Pt) : betterB b s around p x = true ↔ (k1P b s around p < k1P b s around x ∨ (k1P b s around p = k1P b s around x ∧ k2P b p < k2P b x)) := by
  unfold betterB k1P k2P
  cases b <;> cases s <;> simp
def IsFirst (b s : Bool) (around : Int) (l : List Pt) (k i : Nat) : Prop :=
  (∀ j, j < k → betterB b s around (ptAt l j) (ptAt l i) = false) ∧ ∀ j, j < i → betterB b s around (ptAt l i) (ptAt l j) = true
theorem pickK_first (b s : Bool) (around : Int) {l : List Pt} (h : 0 < l.length) : ∀ k, k ≤ l.length → ∃ i, i < l.length ∧ pickK b s around l k = ptAt l i ∧ IsFirst b s around l k i ∧ (i < k ∨ i = 0)
  | 0, _ => ⟨0, h, rfl, ⟨fun j hj => by omega, fun j hj => by omega⟩, Or.inr rfl⟩
  | k + 1, hk => by
    obtain ⟨i, h1, h2, ⟨h3, h4⟩, h5⟩ := pickK_first b s around h k (by omega)
    rw [pickK_step (by omega), h2]
    unfold takeB
    by_cases hb : betterB b s around (ptAt l k) (ptAt l i) = true
    · rw [if_pos hb]
      have hb' := (better_iff ..).1 hb
      refine ⟨k, by omega, rfl, ⟨fun j hj => ?_, fun j hj => ?_⟩, Or.inl (by omega)⟩
      · rw [Bool.eq_false_iff]
        intro hc
        have hc' := (better_iff ..).1 hc
        by_cases e : j = k
        · subst e; omega
        · have := h3 j (by omega)
          rw [Bool.eq_false_iff] at this
          exact this ((better_iff ..).2 (by omega))
      · have := h3 j hj
        rw [Bool.eq_false_iff] at this
        have h6 : ¬ _ := fun e => this ((better_iff ..).2 e)
        exact (better_iff ..).2 (by omega)
    · rw [if_neg hb]
      refine ⟨i, h1, rfl, ⟨fun j hj => ?_, h4⟩, h5.imp (fun e => by omega) id⟩
      by_cases e : j = k
      · subst e; simpa using hb
      · exact h3 j (by omega)
theorem first_one {b s : Bool} {around : Int} {l : List Pt} {i i' : Nat} (hi : i < l.length) (hi' : i' < l.length) (h : IsFirst b s around l l.length i) (h' : IsFirst b s around l l.length i') : i = i' := by
  rcases Nat.lt_trichotomy i i' with e | e | e
  · have h1 := h'.2 i e
    rw [h.1 i' hi'] at h1; cases h1
  · exact e
  · have h1 := h.2 i' e
    rw [h'.1 i hi] at h1; cases h1
theorem lastP_first {around : Int} {l : List Pt} (h : 0 < l.length) : ∃ i, i < l.length ∧ ptAt (lastP around l) 0 = ptAt l i ∧ IsFirst (buysA l) (sellsA l) around l l.length i := by
  have eu : allP upB l = buysA l := by
    rw [allP_is]; unfold buysA upB surB; congr 1; funext x; first | (simp; done) | (simp; omega)
  have ed : allP chDownB l = sellsA l := by
    rw [allP_is]; unfold sellsA chDownB surB; congr 1; funext x; first | (simp; done) | (simp; omega)
  unfold lastP
  rw [eu, ed]
  cases hb : buysA l with
  | true =>
    rw [if_pos rfl]
    obtain ⟨t, e, ht, z, hz, hz1⟩ := mostF_spec Pt.price h
    rw [e]
    obtain ⟨i, h1, h2, h3, h4⟩ := head_filter (q := fun x => x.price == t) ⟨z, hz, by simp [hz1]⟩
    refine ⟨i, h1, h2, fun j hj => ?_, fun j hj => ?_⟩
    · rw [Bool.eq_false_iff]
      intro hc
      have hc' := (better_iff ..).1 hc
      have := ht _ (ptAt_mem hj)
      have h3' : (ptAt l i).price = t := by simpa using h3
      simp [k1P, k2P] at hc'
      omega
    · have h5 := h4 j hj
      have h5' : (ptAt l j).price ≠ t := by simpa using h5
      have := ht _ (ptAt_mem (Nat.lt_trans hj h1))
      have h3' : (ptAt l i).price = t := by simpa using h3
      exact (better_iff ..).2 (by simp [k1P, k2P]; omega)
  | false =>
    rw [if_neg (by decide)]
    cases hs : sellsA l with
    | true =>
      rw [if_pos rfl]
      obtain ⟨t, e, ht, z, hz, hz1⟩ := mostF_spec (fun x => -x.price) h
      rw [leastF, e]
      obtain ⟨i, h1, h2, h3, h4⟩ := head_filter (q := fun x => -x.price == t) ⟨z, hz, by simp [hz1]⟩
      refine ⟨i, h1, h2, fun j hj => ?_, fun j hj => ?_⟩
      · rw [Bool.eq_false_iff]
        intro hc
        have hc' := (better_iff ..).1 hc
        have := ht _ (ptAt_mem hj)
        have h3' : -(ptAt l i).price = t := by simpa using h3
        simp [k1P, k2P] at hc'
        omega
      · have h5 := h4 j hj
        have h5' : -(ptAt l j).price ≠ t := by simpa using h5
        have := ht _ (ptAt_mem (Nat.lt_trans hj h1))
        have h3' : -(ptAt l i).price = t := by simpa using h3
        exact (better_iff ..).2 (by simp [k1P, k2P]; omega)
    | false =>
      rw [if_neg (by decide)]
      obtain ⟨t, e, ht, z, hz, hz1⟩ := mostF_spec (fun x => -nearP around x) h
      have e' : leastF (nearP around) l = l.filter (fun x => -nearP around x == t) := e
      have hp : 0 < (leastF (nearP around) l).length := mostF_pos _ h
      obtain ⟨t2, e2, ht2, z2, hz2, hz3⟩ := mostF_spec (fun x => -x.price) hp
      rw [show leastF Pt.price (leastF (nearP around) l) = (leastF (nearP around) l).filter (fun x => -x.price == t2) from e2]
      rw [e'] at hz2 ht2 ⊢
      rw [List.filter_filter]
      have hz2' := List.mem_filter.1 hz2
      obtain ⟨i, h1, h2, h3, h4⟩ := head_filter (l := l) (q := fun x => (-x.price == t2) && (-nearP around x == t)) ⟨z2, hz2'.1, by rw [hz2'.2]; simp [hz3]⟩
      have h3' : -(ptAt l i).price = t2 ∧ -nearP around (ptAt l i) = t := by simpa using h3
      have hn : ∀ x : Pt, nearP around x = absI (x.price - around) := fun x => apB_abs _ _
      refine ⟨i, h1, h2, fun j hj => ?_, fun j hj => ?_⟩
      · rw [Bool.eq_false_iff]
        intro hc
        have hc' := (better_iff ..).1 hc
        simp only [k1P, k2P, Bool.false_eq_true, if_false, ← hn] at hc'
        have h6 := ht _ (ptAt_mem hj)
        by_cases e : -nearP around (ptAt l j) = t
        · have := ht2 _ (List.mem_filter.2 ⟨ptAt_mem hj, by simp [e]⟩)
          omega
        · omega
      · have h5 := h4 j hj
        have h6 := ht _ (ptAt_mem (Nat.lt_trans hj h1))
        refine (better_iff ..).2 ?_
        simp only [k1P, k2P, Bool.false_eq_true, if_false, ← hn]
        by_cases e : -nearP around (ptAt l j) = t
        · have h7 := ht2 _ (List.mem_filter.2 ⟨ptAt_mem (Nat.lt_trans hj h1), by simp [e]⟩)
          have h8 : ¬ -(ptAt l j).price = t2 := by simpa [e] using h5
          omega
        · omega
theorem lastP_pick {around : Int} {l : List Pt} (h : 0 < l.length) : ptAt (lastP around l) 0 = pickL (buysA l) (sellsA l) around l := by
  obtain ⟨i, h1, h2, h3⟩ := lastP_first (around := around) h
  obtain ⟨i', h1', h2', h3', _⟩ := pickK_first (buysA l) (sellsA l) around h l.length (Nat.le_refl _)
  rw [pickK_all] at h2'
  rw [h2, h2', first_one h1 h1' h3 h3']
/-- the program's choice is the document's -/
theorem chooseP_is (l : List Pt) (around : Int) : chooseP l around = chooseL l around := by
  unfold chooseP chooseL
  by_cases hm : mostL l < 1
  · rw [if_pos hm]
    have hn : nothP (mostF trB l) = true := by
      by_cases hl : 0 < l.length
      · obtain ⟨t, e, _, z, hz, hz1⟩ := mostF_spec trB hl
        have h2 := ptAt_mem (mostF_pos trB hl)
        rw [e] at h2
        have h3 := List.mem_filter.1 h2
        have h4 := mostL_max h3.1
        rw [← e] at h4
        unfold nothP
        rw [Bool.or_eq_true]
        exact Or.inr (decide_eq_true (by omega))
      · have : (mostF trB l).length = 0 := by have := mostF_len trB l; omega
        unfold nothP; simp [this]
    rw [if_pos hn]
  · rw [if_neg hm]
    have hl : 0 < l.length := by
      rcases mostL_is l with h | ⟨x, hx, _⟩
      · omega
      · exact List.length_pos_of_mem hx
    obtain ⟨t, e, ht, z, hz, hz1⟩ := mostF_spec trB hl
    have hp1 := mostF_pos trB hl
    have et : t = mostL l := by
      rcases mostL_is l with h | ⟨x, hx, h⟩
      · omega
      · have h1 := ht x hx
        have h2 := mostL_max hz
        omega
    subst et
    have h3 := List.mem_filter.1 (e ▸ ptAt_mem hp1)
    have hn : nothP (mostF trB l) = false := by
      unfold nothP
      rw [Bool.or_eq_false_iff]
      refine ⟨by simp; intro h0; rw [h0] at hp1; simp at hp1, decide_eq_false ?_⟩
      have : trB (ptAt (mostF trB l) 0) = mostL l := by rw [← e] at h3; simpa using h3.2
      omega
    rw [if_neg (by rw [hn]; decide)]
    have eb : leastF lfP (mostF trB l) = bestL (mostL l) (leastL (mostL l) l).1 l := by
      obtain ⟨t2, e2, ht2, z2, hz2, hz3⟩ := mostF_spec (fun x => -lfP x) hp1
      rw [show leastF lfP (mostF trB l) = (mostF trB l).filter (fun x => -lfP x == t2) from e2]
      rcases leastL_spec (mostL l) l with ⟨_, h4⟩ | ⟨_, ⟨y, hy, hy1, hy2⟩, h5⟩
      · exact absurd hz1 (h4 z hz)
      · have e3 : t2 = -(leastL (mostL l) l).1 := by
          rw [e] at hz2 ht2
          have a1 := ht2 y (List.mem_filter.2 ⟨hy, by simp [hy1]⟩)
          have b1 := List.mem_filter.1 hz2
          have a2 := h5 z2 b1.1 (by simpa using b1.2)
          rw [lfP_is] at a1 hz3
          omega
        rw [e, List.filter_filter, bestL]
        congr 1
        funext x
        unfold bestB
        rw [e3, lfP_is, Bool.and_comm]
        congr 1
        rw [Bool.eq_iff_iff]; first | (simp; done) | (simp; omega)
    rw [eb, lastP_pick (best_some (by omega))]
    rfl
theorem quo_in {l : List Pt} {around : Int} (h : 0 < l.length) : ptAt (lastP around l) 0 ∈ l := lastP_mem (ptAt_mem (lastP_pos around h))
end Go.Proofs.YtjdkagafdnchhaaGreatDoor

/-
  A function value that tells a number of each point, or yes and no; what the program's keep, most, least and all return by it, over this seat's translation. Conditions stand in each theorem: where the points lie, that they are at most 1000, and what the function value tells.
-/
namespace Go.Proofs.YtjdkagafdnchhaaGreatDoor
open Go.RowKit

/-- a function value that tells a number of each point, and lays blocks at most -/
structure NumFn (g : Nat) (lb : Array Value) (f : Pt → Int) (l : List Pt) (w0 : World) : Prop where
  enters : ∀ args w, (callFunc g args).run Tryz.prog w = .ok (.enter g args) w
  tells : ∀ W, Below w0.heap.size w0 W → ∀ x ∈ l, Calls Tryz.prog g (#[.agg #[.int .i64 x.price, .int .i64 x.dem, .int .i64 x.sup]] ++ lb) W fun e W' => e = .returned (.int .i64 (f x)) ∧ Below W.heap.size W W'
/-- one that tells yes or no -/
structure BoolFn (g : Nat) (lb : Array Value) (q : Pt → Bool) (l : List Pt) (w0 : World) : Prop where
  enters : ∀ args w, (callFunc g args).run Tryz.prog w = .ok (.enter g args) w
  tells : ∀ W, Below w0.heap.size w0 W → ∀ x ∈ l, Calls Tryz.prog g (#[.agg #[.int .i64 x.price, .int .i64 x.dem, .int .i64 x.sup]] ++ lb) W fun e W' => e = .returned (.bool (q x)) ∧ Below W.heap.size W W'
theorem NumFn.later {g : Nat} {lb : Array Value} {f : Pt → Int} {l : List Pt} {w0 w1 : World} (h : NumFn g lb f l w0) (hb : Below w0.heap.size w0 w1) : NumFn g lb f l w1 :=
  ⟨h.enters, fun W hW x hx => h.tells W (cu_then hb hW) x hx⟩
theorem NumFn.fewer {g : Nat} {lb : Array Value} {f : Pt → Int} {l l' : List Pt} {w0 : World} (h : NumFn g lb f l w0) (hl : ∀ x ∈ l', x ∈ l) : NumFn g lb f l' w0 :=
  ⟨h.enters, fun W hW x hx => h.tells W hW x (hl x hx)⟩
theorem filter_take {α : Type} (q : α → Bool) {l : List α} {k : Nat} (h : k < l.length) : (l.take (k + 1)).filter q = if q l[k] = true then (l.take k).filter q ++ [l[k]] else (l.take k).filter q := by
  rw [List.take_succ_eq_append_getElem h, List.filter_append]
  by_cases hq : q l[k] = true
  · rw [if_pos hq]; simp [hq]
  · rw [if_neg hq]; simp [hq]
theorem Tryz.infoCp : (Tryz.prog.info? 189).map (fun i => (i.zero, i.size, i.bytes)) = some (some (.agg #[.int .i64 0, .int .i64 0, .int .i64 0]), 3, 24) := by kernel_rfl
/-- a point in a block of its own -/
def CpBox (w : World) (b : Nat) (x : Pt) : Prop := w.heap[b]? = some (.cells #[.int .i64 x.price, .int .i64 x.dem, .int .i64 x.sup] 189 (0, 0))
theorem CpBox.below {w w' : World} {b : Nat} {x : Pt} (h : CpBox w b x) (hb : Below w.heap.size w w') : CpBox w' b x := cu_keep h hb

set_option maxRecDepth 4000 in
set_option maxHeartbeats 4000000 in
theorem chKeep (a : Option Addr) (cap : Nat) (l : List Pt) (g : Nat) (lb : Array Value) (q : Pt → Bool) (w : World) (h : PtsIn w a l) (hl : l.length ≤ 1000) (hf : BoolFn g lb q l w) :
    Calls Tryz.prog 163 #[.slice a l.length cap, .func (.func g) #[] lb] w fun e w' => ∃ v', e = .returned v' ∧ w'.ownsRow w.heap.size 189 3 v' (l.filter q).length (ptV (l.filter q)) ∧ Below w.heap.size w w' := by
  obtain ⟨iP, hiP, hP0, hP1, hP2⟩ := info_parts Tryz.infoCp
  have HA : Hid (PtsIn w a l) := h
  have HF : Hid (BoolFn g lb q l w) := hf
  have eg := hf.enters
  clear h hf
  go_enter Tryz.func163, Tryz.ntmps163
  go_wp2_with fail
  go_loopw [5, 10] (fun v i wr => ∃ k : Nat, k ≤ l.length ∧ i = .int .i64 k ∧ wr.ownsRow w.heap.size 189 3 v ((l.take k).filter q).length (ptV ((l.take k).filter q)) ∧ Below w.heap.size w wr) (fun _ i _ => l.length - (intOf i).toNat)
  case atStart => exact ⟨0, Nat.zero_le _, rfl, World.ownsRow_nil _ _ _ _, Below.refl _ _⟩
  case round =>
    obtain ⟨k, hk, rfl, hown, hb⟩ := hrel
    have HW : Hid (wr.ownsRow w.heap.size 189 3 u5 ((l.take k).filter q).length (ptV ((l.take k).filter q))) := hown
    have HB : Hid (Below w.heap.size w wr) := hb
    have hbl : ((l.take k).filter q).length ≤ 1000 := by
      have := List.length_filter_le q (l.take k)
      rw [List.length_take] at this
      omega
    obtain ⟨vao, vcap, rfl, _, _⟩ := bk_shape hown
    clear hown
    by_cases hk1 : k < l.length
    · have hlt : (k : Int) < (l.length : Int) := by omega
      obtain ⟨b, off, rfl, d0, d1, d2⟩ := HA.out.below hb k hk1
      have HC : Hid (∀ W, Below w.heap.size w W → Calls Tryz.prog g (#[.agg #[.int .i64 (ptAt l k).price, .int .i64 (ptAt l k).dem, .int .i64 (ptAt l k).sup]] ++ lb) W fun e W' => e = .returned (.bool (q (ptAt l k))) ∧ Below W.heap.size W W') := fun W hW => HF.out.tells W hW _ (ptAt_mem hk1)
      have HT : Hid ((l.take (k + 1)).filter q = if q (ptAt l k) = true then (l.take k).filter q ++ [ptAt l k] else (l.take k).filter q) := by rw [ptAt_eq hk1]; exact filter_take q hk1
      clear hb
      generalize ptAt l k = x at d0 d1 d2 HC HT
      generalize (l.take k).filter q = acc at HT HW hbl
      go_wp2_with fail
      have hX : CpBox (wr.alloc (.cells #[.int .i64 x.price, .int .i64 x.dem, .int .i64 x.sup] 189)) wr.heap.size x := heap_alloc_new wr _
      have hbA := cu_bel1 wr (.cells #[.int .i64 x.price, .int .i64 x.dem, .int .i64 x.sup] 189)
      generalize wr.alloc (.cells #[.int .i64 x.price, .int .i64 x.dem, .int .i64 x.sup] 189) = W at hX hbA ⊢
      generalize wr.heap.size = xb at hX ⊢
      refine (HC.out W (cu_then HB.out hbA)).mono ?_
      rintro e w4 ⟨rfl, hb4⟩
      have hX4 := hX.below hb4
      have HW4 : Hid (w4.ownsRow w.heap.size 189 3 (.slice vao acc.length vcap) acc.length (ptV acc)) := bk_below HW.out (cu_then hbA hb4) (Nat.le_refl _)
      have HB4 : Hid (Below w.heap.size w w4) := cu_then HB.out (cu_then hbA hb4)
      clear hX hbA hb4 HW HB d0 d1 d2 HC
      cases hq : q x with
      | true =>
        have HT2 : Hid ((l.take (k + 1)).filter q = acc ++ [x]) := by rw [HT.out, if_pos hq]; rfl
        have y0 := cu_blk (j := 0) hX4 rfl
        have y1 := cu_blk (j := 1) hX4 rfl
        have y2 := cu_blk (j := 2) hX4 rfl
        clear HT hq hX4
        go_wp2_with (at_builtin; refine wpList_append_own_at _ rfl _ _ 127 rfl w.heap.size 189 iP (.agg #[.int .i64 0, .int .i64 0, .int .i64 0]) 3 24 Tryz.underlying127 hiP hP0 hP1 hP2 rfl (by decide) _ acc.length (ptV acc) rfl (HW4.out.alloc _) ⟨w4.heap.size, 0, none⟩ 1 1 [.int .i64 x.price, .int .i64 x.dem, .int .i64 x.sup] rfl rfl (World.news_of_block (cs := #[.int .i64 x.price, .int .i64 x.dem, .int .i64 x.sup]) (t := 189) (fr := (0, 0)) (heap_alloc_new w4 _)) (by simp [Value.oneCell']) (by unfold maxLen; omega) (by omega) (by have := HB4.out.size; simp; omega) ?_; intro v' w6 hown6 hgrow6 _ _)
        go_roundw
        case rel =>
          refine ⟨k + 1, hk1, by go_num, ?_, (HB4.out.alloc HB4.out.size _).grown hgrow6 (by have := HB4.out.size; simp; omega) (fun q hq => (HW4.out.lt q hq).1)⟩
          rw [HT2.out, ptV_snoc, List.length_append, List.length_singleton]
          exact hown6
        case measure => simp [intOf]; omega
      | false =>
        have HT2 : Hid ((l.take (k + 1)).filter q = acc) := by rw [HT.out, if_neg (by rw [hq]; decide)]; rfl
        clear HT hq hX4
        go_wp2_with fail
        go_roundw
        case rel => exact ⟨k + 1, hk1, by go_num, by rw [HT2.out]; exact HW4.out, HB4.out⟩
        case measure => simp [intOf]; omega
    · obtain rfl : k = l.length := by omega
      rw [List.take_length] at HW hbl ⊢
      clear hb
      go_wp2_with fail
      go_ret
      exact ⟨_, rfl, HW.out, HB.out⟩
end Go.Proofs.YtjdkagafdnchhaaGreatDoor
