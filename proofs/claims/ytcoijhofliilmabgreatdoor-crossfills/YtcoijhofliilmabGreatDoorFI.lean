/-
  What sort's symMerge_func does to the row where one of the two runs is of one order, over this translation. Conditions stand in each theorem: where the row lies, what is asked of 'less' and 'swap', that both runs are sorted.
-/
import Derived.Test.YtcoijhofliilmabGreatDoorFH
namespace Go.Proofs.YtcoijhofliilmabGreatDoor
open Go.RowKit

set_option maxRecDepth 4000 in
set_option maxHeartbeats 2000000 in
theorem sym_one (g sf : Nat) (lb sb : Array Value) (w0 w : World) (blk C N a m b : Nat) (el : Nat → List Value) (t : Nat → Nat) (key : Nat → Int) (eg : ∀ args w, (callFunc g args).run Tryz.prog w = .ok (.enter g args) w) (hel : ∀ x, (el x).length = 5) (hS : SwapT Tryz.prog sf sb blk C N el)
    (hL : LessT Tryz.prog g lb w0 blk C N el key) (h : Mv w0 w blk C N el t) (hN : N ≤ 1000) (ham : m = a + 1) (hmb : m < b) (hb : b ≤ N) (hs2 : Srt key t m b) (hap : Apt t a m b) :
    Calls Tryz.prog 91 #[.agg #[.func (.func g) #[] lb, .func (.func sf) #[] sb], .int .i64 a, .int .i64 m, .int .i64 b] w fun e w' => e = .returned (.tuple #[]) ∧ ∃ t', Mv w w' blk C N el t' ∧ Rea a b t t' ∧ Srt key t' a b := by
  have H0 : Hid (Mv w (w.alloc (boxT g sf lb sb)) blk C N el t) := (Mv.start h.row).below ((Below.refl _ _).alloc (Nat.le_refl _) _) (Nat.le_refl _)
  have HB : Hid ((w.alloc (boxT g sf lb sb)).heap[w.heap.size]? = some (boxT g sf lb sb)) := heap_alloc_new w _
  have HN : Hid (w.heap.size ≠ blk) := fun e => by have := h.row.lt; omega
  have HS : Hid (SwapT Tryz.prog sf sb blk C N el) := hS
  have HL : Hid (LessT Tryz.prog g lb w0 blk C N el key) := hL
  have HM0 : Hid (Mv w0 w blk C N el t) := h
  have HI : Hid (Srt key t m b ∧ Apt t a m b) := ⟨hs2, hap⟩
  have ht : ((m : Int) - a == 1) = true := by simp; omega
  have HAM : Hid (m = a + 1) := ham
  clear h hS hL hs2 hap ham
  have ham : a < m := by have := HAM.out; omega
  go_enter Tryz.func91, Tryz.ntmps91
  go_wp2_with fail
  go_loopw [8, 9] (fun vi vj wr => ∃ i j : Nat, m ≤ i ∧ i ≤ j ∧ j ≤ b ∧ vi = .int .i64 i ∧ vj = .int .i64 j ∧ Mv w wr blk C N el t ∧ wr.heap[w.heap.size]? = some (boxT g sf lb sb) ∧ (i = m ∨ key (t (i - 1)) < key (t a)) ∧ (j = b ∨ key (t a) ≤ key (t j))) (fun vi vj _ => (intOf vj).toNat - (intOf vi).toNat)
  case atStart => exact ⟨m, b, Nat.le_refl _, by omega, Nat.le_refl _, rfl, rfl, H0.out, HB.out, Or.inl rfl, Or.inl rfl⟩
  case round =>
    obtain ⟨i, j, hmi, hij, hjb, rfl, rfl, hm, hbx, hlo, hhi⟩ := hrel
    have HM : Hid _ := hm
    have HX : Hid (wr.heap[w.heap.size]? = some (boxT g sf lb sb)) := hbx
    have HLO : Hid (i = m ∨ key (t (i - 1)) < key (t a)) := hlo
    have HHI : Hid (j = b ∨ key (t a) ≤ key (t j)) := hhi
    have c0 : wr.cell? ⟨w.heap.size, 0, none⟩ = some (.func (.func g) #[] lb) := (cell_of_row wr w.heap.size 0 _ _ (0, 0) hbx).trans rfl
    clear hm hbx hlo hhi H0 HB
    by_cases hi1 : i < j
    · obtain ⟨q, hq⟩ : ∃ q : Nat, q = (i + j) / 2 := ⟨_, rfl⟩
      have HQ : Hid (q = (i + j) / 2) := hq
      clear hq
      by_cases hlv : key (t q) < key (t a)
      · have HLL : Hid (Calls Tryz.prog g (#[.int .i64 (((i : Int) + j) / 2), .int .i64 (a : Int)] ++ lb) wr fun e W' => e = .returned (.bool true) ∧ Below wr.heap.size wr W') := HL.out.at (HM0.out.trans HM.out) (i := q) (j := a) (by have := HQ.out; omega) (by omega) (by have := HQ.out; omega) rfl rfl rfl (decide_eq_true hlv)
        have HLV : Hid (key (t q) < key (t a)) := hlv
        clear hlv
        go_wp2_with fail
        refine HLL.out.mono ?_
        rintro e w5 ⟨rfl, hb5⟩
        have HM5 : Hid _ := HM.out.below hb5 (Nat.le_refl _)
        have HX5 : Hid (w5.heap[w.heap.size]? = some (boxT g sf lb sb)) := (hb5.block _ (lt_of_block HX.out)).trans HX.out
        clear hb5 c0 HLL
        go_wp2_with fail
        go_roundw
        case rel => exact ⟨q + 1, j, by have := HQ.out; omega, by have := HQ.out; omega, hjb, by have := HQ.out; go_num, rfl, HM5.out, HX5.out, Or.inr HLV.out, HHI.out⟩
        case measure => simp [intOf]; omega
      · have HLL : Hid (Calls Tryz.prog g (#[.int .i64 (((i : Int) + j) / 2), .int .i64 (a : Int)] ++ lb) wr fun e W' => e = .returned (.bool false) ∧ Below wr.heap.size wr W') := HL.out.at (HM0.out.trans HM.out) (i := q) (j := a) (by have := HQ.out; omega) (by omega) (by have := HQ.out; omega) rfl rfl rfl (decide_eq_false hlv)
        have HLV : Hid (key (t a) ≤ key (t q)) := (show key (t a) ≤ key (t q) by omega)
        clear hlv
        go_wp2_with fail
        refine HLL.out.mono ?_
        rintro e w5 ⟨rfl, hb5⟩
        have HM5 : Hid _ := HM.out.below hb5 (Nat.le_refl _)
        have HX5 : Hid (w5.heap[w.heap.size]? = some (boxT g sf lb sb)) := (hb5.block _ (lt_of_block HX.out)).trans HX.out
        clear hb5 c0 HLL
        go_wp2_with fail
        go_roundw
        case rel => exact ⟨i, q, hmi, by have := HQ.out; omega, by have := HQ.out; omega, rfl, by have := HQ.out; go_num, HM5.out, HX5.out, HLO.out, Or.inr HLV.out⟩
        case measure => simp [intOf]; omega
    · obtain rfl : i = j := by omega
      go_wp2_with fail
      go_loopw [11] (fun v wr2 => ∃ k : Nat, a ≤ k ∧ k ≤ i - 1 ∧ v = .int .i64 k ∧ Mv w wr2 blk C N el (fun x => t (upI a k x)) ∧ wr2.heap[w.heap.size]? = some (boxT g sf lb sb)) (fun v _ => i - (intOf v).toNat)
      case atStart => exact ⟨a, Nat.le_refl _, by omega, rfl, HM.out.congr (fun x _ => by show t (upI a a x) = t x; rw [upI_self]), HX.out⟩
      case round =>
        obtain ⟨k, hak, hki, rfl, hm2, hbx2⟩ := hrel
        have HM2 : Hid _ := hm2
        have HX2 : Hid (wr.heap[w.heap.size]? = some (boxT g sf lb sb)) := hbx2
        have c1 : wr.cell? ⟨w.heap.size, 1, none⟩ = some (.func (.func sf) #[] sb) := (cell_of_row wr w.heap.size 1 _ _ (0, 0) hbx2).trans rfl
        clear hm2 hbx2 HM HX c0
        by_cases hk1 : k < i - 1
        · have hs : (callFunc sf (#[.int .i64 (k : Int), .int .i64 ((k : Int) + 1)] ++ sb)).run Tryz.prog wr = .ok (.value (.tuple #[])) ((wr.setCells blk (k * 5) (el (t (upI a k (k + 1))))).setCells blk ((k + 1) * 5) (el (t (upI a k k)))) := HS.out.at HM2.out.row (i := k) (j := k + 1) (by omega) (by omega) rfl (by omega) (by omega)
          go_wp2_with fail
          go_roundw
          case rel =>
            refine ⟨k + 1, by omega, by omega, by go_num, ((HM2.out.row.swap hel (by omega) (by omega)).2.2 _ _ HM2.out).congr (fun x _ => ?_), (swap_else HM2.out.row HN.out).trans HX2.out⟩
            show t (upI a (k + 1) x) = t (upI a k (ex1 k (k + 1) x))
            rw [upI_step hak]
          case measure => simp [intOf]; omega
        · obtain rfl : k = i - 1 := by omega
          go_wp2_with fail
          refine bodyPost_ret (results_none rfl _ _ _) rfl ?_
          have hi := HI.out
          have e1 := HAM.out
          refine ⟨rfl, _, HM2.out, up_rea t (by omega) (by omega), srt_up (by rw [← e1]; exact hi.1) (fun x hx hxb => hi.2 a x (Nat.le_refl _) (by omega) (by omega) hxb) (by omega) (by omega) ?_ ?_⟩
          · rcases HLO.out with h | h
            · left; omega
            · exact Or.inr h
          · rcases HHI.out with h | h
            · left; omega
            · right; rw [show i - 1 + 1 = i by omega]; exact h

set_option maxRecDepth 4000 in
set_option maxHeartbeats 2000000 in
theorem sym_last (g sf : Nat) (lb sb : Array Value) (w0 w : World) (blk C N a m b : Nat) (el : Nat → List Value) (t : Nat → Nat) (key : Nat → Int) (eg : ∀ args w, (callFunc g args).run Tryz.prog w = .ok (.enter g args) w) (hel : ∀ x, (el x).length = 5) (hS : SwapT Tryz.prog sf sb blk C N el)
    (hL : LessT Tryz.prog g lb w0 blk C N el key) (h : Mv w0 w blk C N el t) (hN : N ≤ 1000) (ham : a + 1 < m) (hmb : b = m + 1) (hb : b ≤ N) (hs2 : Srt key t a m) (hap : Apt t a m b) :
    Calls Tryz.prog 91 #[.agg #[.func (.func g) #[] lb, .func (.func sf) #[] sb], .int .i64 a, .int .i64 m, .int .i64 b] w fun e w' => e = .returned (.tuple #[]) ∧ ∃ t', Mv w w' blk C N el t' ∧ Rea a b t t' ∧ Srt key t' a b := by
  have H0 : Hid (Mv w (w.alloc (boxT g sf lb sb)) blk C N el t) := (Mv.start h.row).below ((Below.refl _ _).alloc (Nat.le_refl _) _) (Nat.le_refl _)
  have HB : Hid ((w.alloc (boxT g sf lb sb)).heap[w.heap.size]? = some (boxT g sf lb sb)) := heap_alloc_new w _
  have HN : Hid (w.heap.size ≠ blk) := fun e => by have := h.row.lt; omega
  have HS : Hid (SwapT Tryz.prog sf sb blk C N el) := hS
  have HL : Hid (LessT Tryz.prog g lb w0 blk C N el key) := hL
  have HM0 : Hid (Mv w0 w blk C N el t) := h
  have HI : Hid (Srt key t a m ∧ Apt t a m b) := ⟨hs2, hap⟩
  have ht : ((m : Int) - a == 1) = false := beq_eq_false_iff_ne.2 (by omega)
  have ht2 : ((b : Int) - m == 1) = true := by simp; omega
  have HAM : Hid (b = m + 1) := hmb
  clear h hS hL hs2 hap hmb
  have hmb : m < b := by have := HAM.out; omega
  go_enter Tryz.func91, Tryz.ntmps91
  go_wp2_with fail
  go_loopw [12, 13] (fun vi vj wr => ∃ i j : Nat, a ≤ i ∧ i ≤ j ∧ j ≤ m ∧ vi = .int .i64 i ∧ vj = .int .i64 j ∧ Mv w wr blk C N el t ∧ wr.heap[w.heap.size]? = some (boxT g sf lb sb) ∧ (i = a ∨ key (t (i - 1)) ≤ key (t m)) ∧ (j = m ∨ key (t m) < key (t j))) (fun vi vj _ => (intOf vj).toNat - (intOf vi).toNat)
  case atStart => exact ⟨a, m, Nat.le_refl _, by omega, Nat.le_refl _, rfl, rfl, H0.out, HB.out, Or.inl rfl, Or.inl rfl⟩
  case round =>
    obtain ⟨i, j, hmi, hij, hjb, rfl, rfl, hm, hbx, hlo, hhi⟩ := hrel
    have HM : Hid _ := hm
    have HX : Hid (wr.heap[w.heap.size]? = some (boxT g sf lb sb)) := hbx
    have HLO : Hid (i = a ∨ key (t (i - 1)) ≤ key (t m)) := hlo
    have HHI : Hid (j = m ∨ key (t m) < key (t j)) := hhi
    have c0 : wr.cell? ⟨w.heap.size, 0, none⟩ = some (.func (.func g) #[] lb) := (cell_of_row wr w.heap.size 0 _ _ (0, 0) hbx).trans rfl
    clear hm hbx hlo hhi H0 HB
    by_cases hi1 : i < j
    · obtain ⟨q, hq⟩ : ∃ q : Nat, q = (i + j) / 2 := ⟨_, rfl⟩
      have HQ : Hid (q = (i + j) / 2) := hq
      clear hq
      by_cases hlv : key (t m) < key (t q)
      · have HLL : Hid (Calls Tryz.prog g (#[.int .i64 (m : Int), .int .i64 (((i : Int) + j) / 2)] ++ lb) wr fun e W' => e = .returned (.bool true) ∧ Below wr.heap.size wr W') := HL.out.at (HM0.out.trans HM.out) (i := m) (j := q) (by omega) (by have := HQ.out; omega) rfl (by have := HQ.out; omega) rfl rfl (decide_eq_true hlv)
        have HLV : Hid (key (t m) < key (t q)) := hlv
        clear hlv
        go_wp2_with fail
        refine HLL.out.mono ?_
        rintro e w5 ⟨rfl, hb5⟩
        have HM5 : Hid _ := HM.out.below hb5 (Nat.le_refl _)
        have HX5 : Hid (w5.heap[w.heap.size]? = some (boxT g sf lb sb)) := (hb5.block _ (lt_of_block HX.out)).trans HX.out
        clear hb5 c0 HLL
        go_wp2_with fail
        go_roundw
        case rel => exact ⟨i, q, hmi, by have := HQ.out; omega, by have := HQ.out; omega, rfl, by have := HQ.out; go_num, HM5.out, HX5.out, HLO.out, Or.inr HLV.out⟩
        case measure => simp [intOf]; omega
      · have HLL : Hid (Calls Tryz.prog g (#[.int .i64 (m : Int), .int .i64 (((i : Int) + j) / 2)] ++ lb) wr fun e W' => e = .returned (.bool false) ∧ Below wr.heap.size wr W') := HL.out.at (HM0.out.trans HM.out) (i := m) (j := q) (by omega) (by have := HQ.out; omega) rfl (by have := HQ.out; omega) rfl rfl (decide_eq_false hlv)
        have HLV : Hid (key (t q) ≤ key (t m)) := (show key (t q) ≤ key (t m) by omega)
        clear hlv
        go_wp2_with fail
        refine HLL.out.mono ?_
        rintro e w5 ⟨rfl, hb5⟩
        have HM5 : Hid _ := HM.out.below hb5 (Nat.le_refl _)
        have HX5 : Hid (w5.heap[w.heap.size]? = some (boxT g sf lb sb)) := (hb5.block _ (lt_of_block HX.out)).trans HX.out
        clear hb5 c0 HLL
        go_wp2_with fail
        go_roundw
        case rel => exact ⟨q + 1, j, by have := HQ.out; omega, by have := HQ.out; omega, hjb, by have := HQ.out; go_num, rfl, HM5.out, HX5.out, Or.inr HLV.out, HHI.out⟩
        case measure => simp [intOf]; omega
    · obtain rfl : i = j := by omega
      go_wp2_with fail
      go_loopw [15] (fun v wr2 => ∃ k : Nat, i ≤ k ∧ k ≤ m ∧ v = .int .i64 k ∧ Mv w wr2 blk C N el (fun x => t (dnI m k x)) ∧ wr2.heap[w.heap.size]? = some (boxT g sf lb sb)) (fun v _ => (intOf v).toNat)
      case atStart => exact ⟨m, by omega, Nat.le_refl _, rfl, HM.out.congr (fun x _ => by show t (dnI m m x) = t x; rw [dnI_self]), HX.out⟩
      case round =>
        obtain ⟨k, hik, hkm, rfl, hm2, hbx2⟩ := hrel
        have HM2 : Hid _ := hm2
        have HX2 : Hid (wr.heap[w.heap.size]? = some (boxT g sf lb sb)) := hbx2
        have c1 : wr.cell? ⟨w.heap.size, 1, none⟩ = some (.func (.func sf) #[] sb) := (cell_of_row wr w.heap.size 1 _ _ (0, 0) hbx2).trans rfl
        clear hm2 hbx2 HM HX c0
        by_cases hk1 : i < k
        · have hs : (callFunc sf (#[.int .i64 (k : Int), .int .i64 ((k : Int) - 1)] ++ sb)).run Tryz.prog wr = .ok (.value (.tuple #[])) ((wr.setCells blk (k * 5) (el (t (dnI m k (k - 1))))).setCells blk ((k - 1) * 5) (el (t (dnI m k k)))) := HS.out.at HM2.out.row (i := k) (j := k - 1) (by omega) (by omega) rfl (by omega) (by omega)
          go_wp2_with fail
          go_roundw
          case rel =>
            refine ⟨k - 1, by omega, by omega, by go_num, ((HM2.out.row.swap hel (by omega) (by omega)).2.2 _ _ HM2.out).congr (fun x _ => ?_), (swap_else HM2.out.row HN.out).trans HX2.out⟩
            show t (dnI m (k - 1) x) = t (dnI m k (ex1 k (k - 1) x))
            rw [dnI_step (by omega) hkm]
          case measure => simp [intOf]; omega
        · obtain rfl : k = i := by omega
          go_wp2_with fail
          refine bodyPost_ret (results_none rfl _ _ _) rfl ?_
          have hi := HI.out
          have e1 := HAM.out
          subst e1
          exact ⟨rfl, _, HM2.out, dn_rea t hmi hkm, srt_insert hi.1 (fun x hx hxm => hi.2 x m hx hxm (Nat.le_refl _) (by omega)) hmi hkm HLO.out HHI.out⟩
end Go.Proofs.YtcoijhofliilmabGreatDoor

/-
  What sort's symMerge_func does to the row, over this translation: two sorted runs become one, stably. Conditions stand in each theorem: where the row lies, what is asked of 'less' and 'swap', that both runs are sorted and what lay ahead lies in the first.
-/
namespace Go.Proofs.YtcoijhofliilmabGreatDoor
open Go.RowKit

theorem ro_id {s m e x : Nat} (h : s = m ∨ e = m) (h1 : s ≤ m) (h2 : m ≤ e) : roI s m e x = x := by
  unfold roI
  (repeat' split) <;> omega

/-- the contract, for runs of at most d orders together -/
def SymC (g sf : Nat) (lb sb : Array Value) (w0 : World) (blk C N : Nat) (el : Nat → List Value) (key : Nat → Int) (d : Nat) : Prop :=
  ∀ (w : World) (a m b : Nat) (t : Nat → Nat), b - a ≤ d → Mv w0 w blk C N el t → a < m → m < b → b ≤ N → Srt key t a m → Srt key t m b → Apt t a m b →
    Calls Tryz.prog 91 #[.agg #[.func (.func g) #[] lb, .func (.func sf) #[] sb], .int .i64 a, .int .i64 m, .int .i64 b] w fun e w' => e = .returned (.tuple #[]) ∧ ∃ t', Mv w w' blk C N el t' ∧ Rea a b t t' ∧ Srt key t' a b

/-- what is left to do behind the rotation, and that it is enough -/
theorem sym_plain {key : Nat → Int} {t : Nat → Nat} {a s m e b c : Nat} (h1 : Srt key t a m) (h2 : Srt key t m b) (hap : Apt t a m b) (has : a ≤ s) (hsm : s ≤ m) (hme : m ≤ e) (heb : e ≤ b) (hc : c = s + (e - m))
    (hlo : s = a ∨ e = b ∨ key (t (s - 1)) ≤ key (t e)) (hhi : s = m ∨ e = m ∨ key (t (e - 1)) < key (t s)) :
    (Srt key (fun x => t (roI s m e x)) a s ∧ Srt key (fun x => t (roI s m e x)) s c ∧ Apt (fun x => t (roI s m e x)) a s c)
    ∧ (¬ (a < s ∧ s < c) → Srt key (fun x => t (roI s m e x)) a c)
    ∧ (∀ u, Rea a c (fun x => t (roI s m e x)) u → Srt key u c e ∧ Srt key u e b ∧ Apt u c e b)
    ∧ (¬ (c < e ∧ e < b) → ∀ u, Rea a c (fun x => t (roI s m e x)) u → Srt key u c b)
    ∧ ∀ u u', Rea a c (fun x => t (roI s m e x)) u → Rea c b u u' → Srt key u a c → Srt key u' c b → Rea a b t u' ∧ Srt key u' a b := by
  subst hc
  obtain ⟨p1, p2, p3, p4, p5, p6, p7⟩ := halves h1 h2 hap has hsm hme heb hlo hhi
  have keep : ∀ u, Rea a (s + (e - m)) (fun x => t (roI s m e x)) u → ∀ x, s + (e - m) ≤ x → u x = t (roI s m e x) := fun u hu x hx => hu.out (Or.inr hx)
  refine ⟨⟨p1, p2, p3⟩, fun hn => ?_, fun u hu => ⟨p4.congr (fun x hx _ => keep u hu x hx), p5.congr (fun x hx _ => keep u hu x (by omega)), fun x y hx hxs hy hyb => ?_⟩, fun hn u hu => ?_, fun u u' hu hu' s1 s2 => ?_⟩
  · by_cases hs : s = a
    · rw [hs] at p2 ⊢; exact p2
    · have : e = m := by omega
      subst this
      simpa using p1
  · rw [keep u hu x hx, keep u hu y (by omega)]; exact p6 x y hx hxs hy hyb
  · by_cases he : e = b
    · exact (p4.congr (fun x hx _ => keep u hu x hx)).sub (Nat.le_refl _) (by omega)
    · have : s + (e - m) = e := by omega
      rw [this]
      exact p5.congr (fun x hx _ => keep u hu x (by omega))
  · have s3 : Srt key u' a (s + (e - m)) := s1.congr (fun x _ hx => hu'.out (Or.inl hx))
    have := whole_of (t := fun x => t (roI s m e x)) (t' := u') (a := a) (c := s + (e - m)) (b := b) ⟨by omega, by omega⟩ p7 ⟨u, hu, hu'⟩ s3 s2
    exact ⟨((ro_rea t hsm hme).mono has heb).trans this.2, this.1⟩

set_option maxRecDepth 4000 in
set_option maxHeartbeats 8000000 in
theorem sym_gen (g sf : Nat) (lb sb : Array Value) (w0 w : World) (blk C N a m b d : Nat) (el : Nat → List Value) (t : Nat → Nat) (key : Nat → Int) (eg : ∀ args w, (callFunc g args).run Tryz.prog w = .ok (.enter g args) w) (hel : ∀ x, (el x).length = 5) (hS : SwapT Tryz.prog sf sb blk C N el)
    (hL : LessT Tryz.prog g lb w0 blk C N el key) (h : Mv w0 w blk C N el t) (hN : N ≤ 1000) (ham : a + 1 < m) (hmb : m + 1 < b) (hb : b ≤ N) (hs1 : Srt key t a m) (hs2 : Srt key t m b) (hap : Apt t a m b) (hd : b - a ≤ d + 1) (hC : SymC g sf lb sb w0 blk C N el key d) :
    Calls Tryz.prog 91 #[.agg #[.func (.func g) #[] lb, .func (.func sf) #[] sb], .int .i64 a, .int .i64 m, .int .i64 b] w fun e w' => e = .returned (.tuple #[]) ∧ ∃ t', Mv w w' blk C N el t' ∧ Rea a b t t' ∧ Srt key t' a b := by
  have H0 : Hid (Mv w (w.alloc (boxT g sf lb sb)) blk C N el t) := (Mv.start h.row).below ((Below.refl _ _).alloc (Nat.le_refl _) _) (Nat.le_refl _)
  have HB : Hid ((w.alloc (boxT g sf lb sb)).heap[w.heap.size]? = some (boxT g sf lb sb)) := heap_alloc_new w _
  have HN : Hid (w.heap.size ≠ blk) := fun e => by have := h.row.lt; omega
  have HS : Hid (SwapT Tryz.prog sf sb blk C N el) := hS
  have HL : Hid (LessT Tryz.prog g lb w0 blk C N el key) := hL
  have HM0 : Hid (Mv w0 w blk C N el t) := h
  have HI : Hid (Srt key t a m ∧ Srt key t m b ∧ Apt t a m b) := ⟨hs1, hs2, hap⟩
  have HC : Hid (SymC g sf lb sb w0 blk C N el key d) := hC
  have ht : ((m : Int) - a == 1) = false := beq_eq_false_iff_ne.2 (by omega)
  have ht2 : ((b : Int) - m == 1) = false := beq_eq_false_iff_ne.2 (by omega)
  obtain ⟨c, hc⟩ : ∃ c : Nat, (c : Int) = ((a : Int) + b) / 2 := ⟨(a + b) / 2, by omega⟩
  have HCC : Hid ((c : Int) = ((a : Int) + b) / 2) := hc
  have k1 : a + b ≤ 2 * c + 1 := by omega
  have k2 : 2 * c ≤ a + b := by omega
  have hc' : ((a : Int) + b) / 2 = c := hc.symm
  clear h hS hL hs1 hs2 hap hC hc
  by_cases hmm : c < m
  · go_enter Tryz.func91, Tryz.ntmps91
    go_wp2_with fail
    go_loopw [18, 19] (fun vs vr wr => ∃ s r : Nat, c + m - b ≤ s ∧ s ≤ r ∧ r ≤ c ∧ vs = .int .i64 s ∧ vr = .int .i64 r ∧ Mv w wr blk C N el t ∧ wr.heap[w.heap.size]? = some (boxT g sf lb sb) ∧ (s = c + m - b ∨ key (t (s - 1)) ≤ key (t (c + m - s))) ∧ (r = c ∨ key (t (c + m - 1 - r)) < key (t r))) (fun vs vr _ => (intOf vr).toNat - (intOf vs).toNat)
    case atStart => exact ⟨c + m - b, c, Nat.le_refl _, by omega, Nat.le_refl _, by go_num, by go_num, H0.out, HB.out, Or.inl rfl, Or.inl rfl⟩
    case round =>
      obtain ⟨s, r, hls, hsr, hrh, rfl, rfl, hm, hbx, hlo, hhi⟩ := hrel
      have HM : Hid _ := hm
      have HX : Hid (wr.heap[w.heap.size]? = some (boxT g sf lb sb)) := hbx
      have HLO : Hid (s = c + m - b ∨ key (t (s - 1)) ≤ key (t (c + m - s))) := hlo
      have HHI : Hid (r = c ∨ key (t (c + m - 1 - r)) < key (t r)) := hhi
      have c0 : wr.cell? ⟨w.heap.size, 0, none⟩ = some (.func (.func g) #[] lb) := (cell_of_row wr w.heap.size 0 _ _ (0, 0) hbx).trans rfl
      have c1 : wr.cell? ⟨w.heap.size, 1, none⟩ = some (.func (.func sf) #[] sb) := (cell_of_row wr w.heap.size 1 _ _ (0, 0) hbx).trans rfl
      clear hm hbx hlo hhi H0 HB
      by_cases hi1 : s < r
      · obtain ⟨q, hq⟩ : ∃ q : Nat, (q : Int) = ((s : Int) + r) / 2 := ⟨(s + r) / 2, by omega⟩
        have k3 : s + r ≤ 2 * q + 1 := by omega
        have k4 : 2 * q ≤ s + r := by omega
        have hq' : ((s : Int) + r) / 2 = q := hq.symm
        clear hq
        by_cases hlv : key (t (c + m - 1 - q)) < key (t q)
        · have HLL : Hid (Calls Tryz.prog g (#[.int .i64 ((c : Int) + m - 1 - q), .int .i64 (q : Int)] ++ lb) wr fun e W' => e = .returned (.bool true) ∧ Below wr.heap.size wr W') := HL.out.at (HM0.out.trans HM.out) (i := c + m - 1 - q) (j := q) (by omega) (by omega) (by omega) rfl rfl rfl (decide_eq_true hlv)
          have HLV : Hid (key (t (c + m - 1 - q)) < key (t q)) := hlv
          clear hlv
          go_wp2_with fail
          refine HLL.out.mono ?_
          rintro e w5 ⟨rfl, hb5⟩
          have HM5 : Hid _ := HM.out.below hb5 (Nat.le_refl _)
          have HX5 : Hid (w5.heap[w.heap.size]? = some (boxT g sf lb sb)) := (hb5.block _ (lt_of_block HX.out)).trans HX.out
          clear hb5 c0 c1 HLL
          go_wp2_with fail
          go_roundw
          case rel => exact ⟨s, q, hls, by omega, by omega, rfl, by go_num, HM5.out, HX5.out, HLO.out, Or.inr HLV.out⟩
          case measure => simp [intOf]; omega
        · have HLL : Hid (Calls Tryz.prog g (#[.int .i64 ((c : Int) + m - 1 - q), .int .i64 (q : Int)] ++ lb) wr fun e W' => e = .returned (.bool false) ∧ Below wr.heap.size wr W') := HL.out.at (HM0.out.trans HM.out) (i := c + m - 1 - q) (j := q) (by omega) (by omega) (by omega) rfl rfl rfl (decide_eq_false hlv)
          have HLV : Hid (key (t q) ≤ key (t (c + m - 1 - q))) := (show key (t q) ≤ key (t (c + m - 1 - q)) by omega)
          clear hlv
          go_wp2_with fail
          refine HLL.out.mono ?_
          rintro e w5 ⟨rfl, hb5⟩
          have HM5 : Hid _ := HM.out.below hb5 (Nat.le_refl _)
          have HX5 : Hid (w5.heap[w.heap.size]? = some (boxT g sf lb sb)) := (hb5.block _ (lt_of_block HX.out)).trans HX.out
          clear hb5 c0 c1 HLL
          go_wp2_with fail
          go_roundw
          case rel => exact ⟨q + 1, r, by omega, by omega, hrh, by go_num, rfl, HM5.out, HX5.out, Or.inr (by rw [show q + 1 - 1 = q by omega, show c + m - (q + 1) = c + m - 1 - q by omega]; exact HLV.out), HHI.out⟩
          case measure => simp [intOf]; omega
      · obtain rfl : s = r := by omega
        obtain ⟨f, hf⟩ : ∃ f : Nat, (f : Int) = (c : Int) + m - s := ⟨c + m - s, by omega⟩
        have hf' : (c : Int) + m - s = f := hf.symm
        have k5 : f + s = c + m := by omega
        clear hf
        have PL : Hid _ := sym_plain (key := key) (t := t) (a := a) (s := s) (m := m) (e := f) (b := b) (c := c) HI.out.1 HI.out.2.1 HI.out.2.2 (by omega) (by omega) (by omega) (by omega) (by omega)
          (by rcases HLO.out with h | h
              · omega
              · right; right; rwa [show f = c + m - s by omega])
          (by rcases HHI.out with h | h
              · omega
              · right; right; rwa [show f - 1 = c + m - 1 - s by omega])
        clear HLO HHI
        by_cases g1 : s < m ∧ m < f
        · by_cases g2 : a < s ∧ s < c
          · by_cases g3 : c < f ∧ f < b
            · go_wp2_with fail
              refine (rotate_any g sf lb sb wr blk C N s m f el t hel HS.out HM.out.row hN g1.1 g1.2 (by omega)).mono ?_
              rintro e w6 ⟨rfl, h6⟩
              have M6 : Hid (Mv w w6 blk C N el (fun x => t (roI s m f x))) := HM.out.trans h6
              have hx6 := (h6.block _ (lt_of_block HX.out) HN.out).trans HX.out
              have X6 : Hid (w6.heap[w.heap.size]? = some (boxT g sf lb sb)) := hx6
              clear c0 c1 h6
              have c0 : w6.cell? ⟨w.heap.size, 0, none⟩ = some (.func (.func g) #[] lb) := (cell_of_row w6 w.heap.size 0 _ _ (0, 0) hx6).trans rfl
              have c1 : w6.cell? ⟨w.heap.size, 1, none⟩ = some (.func (.func sf) #[] sb) := (cell_of_row w6 w.heap.size 1 _ _ (0, 0) hx6).trans rfl
              clear hx6
              go_wp2_with fail
              refine (HC.out w6 a s c _ (by omega) (HM0.out.trans M6.out) g2.1 g2.2 (by omega) PL.out.1.1 PL.out.1.2.1 PL.out.1.2.2).mono ?_
              rintro e w7 ⟨rfl, u, h7, r7, s7⟩
              have M7 : Hid (Mv w w7 blk C N el u) := M6.out.trans h7
              have hx7 := (h7.block _ (lt_of_block X6.out) HN.out).trans X6.out
              have X7 : Hid (w7.heap[w.heap.size]? = some (boxT g sf lb sb)) := hx7
              have R7 : Hid (Rea a c (fun x => t (roI s m f x)) u) := r7
              have S7 : Hid (Srt key u a c) := s7
              clear c0 c1 h7 r7 s7
              have c0 : w7.cell? ⟨w.heap.size, 0, none⟩ = some (.func (.func g) #[] lb) := (cell_of_row w7 w.heap.size 0 _ _ (0, 0) hx7).trans rfl
              have c1 : w7.cell? ⟨w.heap.size, 1, none⟩ = some (.func (.func sf) #[] sb) := (cell_of_row w7 w.heap.size 1 _ _ (0, 0) hx7).trans rfl
              clear hx7
              go_wp2_with fail
              refine (HC.out w7 c f b _ (by omega) (HM0.out.trans M7.out) g3.1 g3.2 (by omega) (PL.out.2.2.1 _ R7.out).1 (PL.out.2.2.1 _ R7.out).2.1 (PL.out.2.2.1 _ R7.out).2.2).mono ?_
              rintro e w8 ⟨rfl, u', h8, r8, s8⟩
              have M8 : Hid (Mv w w8 blk C N el u') := M7.out.trans h8
              have FIN : Hid _ := PL.out.2.2.2.2 _ u' R7.out r8 S7.out s8
              clear c0 c1 h8 r8 s8
              go_wp2_with fail
              all_goals go_end0
              all_goals exact ⟨rfl, u', M8.out, FIN.out⟩
            · go_wp2_with fail
              refine (rotate_any g sf lb sb wr blk C N s m f el t hel HS.out HM.out.row hN g1.1 g1.2 (by omega)).mono ?_
              rintro e w6 ⟨rfl, h6⟩
              have M6 : Hid (Mv w w6 blk C N el (fun x => t (roI s m f x))) := HM.out.trans h6
              have hx6 := (h6.block _ (lt_of_block HX.out) HN.out).trans HX.out
              have X6 : Hid (w6.heap[w.heap.size]? = some (boxT g sf lb sb)) := hx6
              clear c0 c1 h6
              have c0 : w6.cell? ⟨w.heap.size, 0, none⟩ = some (.func (.func g) #[] lb) := (cell_of_row w6 w.heap.size 0 _ _ (0, 0) hx6).trans rfl
              have c1 : w6.cell? ⟨w.heap.size, 1, none⟩ = some (.func (.func sf) #[] sb) := (cell_of_row w6 w.heap.size 1 _ _ (0, 0) hx6).trans rfl
              clear hx6
              go_wp2_with fail
              refine (HC.out w6 a s c _ (by omega) (HM0.out.trans M6.out) g2.1 g2.2 (by omega) PL.out.1.1 PL.out.1.2.1 PL.out.1.2.2).mono ?_
              rintro e w7 ⟨rfl, u, h7, r7, s7⟩
              have M7 : Hid (Mv w w7 blk C N el u) := M6.out.trans h7
              have hx7 := (h7.block _ (lt_of_block X6.out) HN.out).trans X6.out
              have X7 : Hid (w7.heap[w.heap.size]? = some (boxT g sf lb sb)) := hx7
              have R7 : Hid (Rea a c (fun x => t (roI s m f x)) u) := r7
              have S7 : Hid (Srt key u a c) := s7
              clear c0 c1 h7 r7 s7
              have c0 : w7.cell? ⟨w.heap.size, 0, none⟩ = some (.func (.func g) #[] lb) := (cell_of_row w7 w.heap.size 0 _ _ (0, 0) hx7).trans rfl
              have c1 : w7.cell? ⟨w.heap.size, 1, none⟩ = some (.func (.func sf) #[] sb) := (cell_of_row w7 w.heap.size 1 _ _ (0, 0) hx7).trans rfl
              clear hx7
              have FIN : Hid _ := PL.out.2.2.2.2 _ _ R7.out (Rea.refl c b _) S7.out (PL.out.2.2.2.1 g3 _ R7.out)
              go_wp2_with fail
              all_goals go_end0
              all_goals exact ⟨rfl, _, M7.out, FIN.out⟩
          · by_cases g3 : c < f ∧ f < b
            · exfalso
              omega
            · go_wp2_with fail
              refine (rotate_any g sf lb sb wr blk C N s m f el t hel HS.out HM.out.row hN g1.1 g1.2 (by omega)).mono ?_
              rintro e w6 ⟨rfl, h6⟩
              have M6 : Hid (Mv w w6 blk C N el (fun x => t (roI s m f x))) := HM.out.trans h6
              have hx6 := (h6.block _ (lt_of_block HX.out) HN.out).trans HX.out
              have X6 : Hid (w6.heap[w.heap.size]? = some (boxT g sf lb sb)) := hx6
              clear c0 c1 h6
              have c0 : w6.cell? ⟨w.heap.size, 0, none⟩ = some (.func (.func g) #[] lb) := (cell_of_row w6 w.heap.size 0 _ _ (0, 0) hx6).trans rfl
              have c1 : w6.cell? ⟨w.heap.size, 1, none⟩ = some (.func (.func sf) #[] sb) := (cell_of_row w6 w.heap.size 1 _ _ (0, 0) hx6).trans rfl
              clear hx6
              have M7 : Hid (Mv w w6 blk C N el (fun x => t (roI s m f x))) := M6.out
              have X7 : Hid (w6.heap[w.heap.size]? = some (boxT g sf lb sb)) := X6.out
              have R7 : Hid (Rea a c (fun x => t (roI s m f x)) (fun x => t (roI s m f x))) := Rea.refl _ _ _
              have S7 : Hid (Srt key (fun x => t (roI s m f x)) a c) := PL.out.2.1 g2
              have FIN : Hid _ := PL.out.2.2.2.2 _ _ R7.out (Rea.refl c b _) S7.out (PL.out.2.2.2.1 g3 _ R7.out)
              go_wp2_with fail
              all_goals go_end0
              all_goals exact ⟨rfl, _, M7.out, FIN.out⟩
        · by_cases g2 : a < s ∧ s < c
          · by_cases g3 : c < f ∧ f < b
            · exfalso
              omega
            · exfalso
              omega
          · by_cases g3 : c < f ∧ f < b
            · have M6 : Hid (Mv w wr blk C N el (fun x => t (roI s m f x))) := HM.out.congr (fun x _ => by show t (roI s m f x) = t x; rw [ro_id (by omega) (by omega) (by omega)])
              have X6 : Hid (wr.heap[w.heap.size]? = some (boxT g sf lb sb)) := HX.out
              have M7 : Hid (Mv w wr blk C N el (fun x => t (roI s m f x))) := M6.out
              have X7 : Hid (wr.heap[w.heap.size]? = some (boxT g sf lb sb)) := X6.out
              have R7 : Hid (Rea a c (fun x => t (roI s m f x)) (fun x => t (roI s m f x))) := Rea.refl _ _ _
              have S7 : Hid (Srt key (fun x => t (roI s m f x)) a c) := PL.out.2.1 g2
              go_wp2_with fail
              refine (HC.out wr c f b _ (by omega) (HM0.out.trans M7.out) g3.1 g3.2 (by omega) (PL.out.2.2.1 _ R7.out).1 (PL.out.2.2.1 _ R7.out).2.1 (PL.out.2.2.1 _ R7.out).2.2).mono ?_
              rintro e w8 ⟨rfl, u', h8, r8, s8⟩
              have M8 : Hid (Mv w w8 blk C N el u') := M7.out.trans h8
              have FIN : Hid _ := PL.out.2.2.2.2 _ u' R7.out r8 S7.out s8
              clear c0 c1 h8 r8 s8
              go_wp2_with fail
              all_goals go_end0
              all_goals exact ⟨rfl, u', M8.out, FIN.out⟩
            · have M6 : Hid (Mv w wr blk C N el (fun x => t (roI s m f x))) := HM.out.congr (fun x _ => by show t (roI s m f x) = t x; rw [ro_id (by omega) (by omega) (by omega)])
              have X6 : Hid (wr.heap[w.heap.size]? = some (boxT g sf lb sb)) := HX.out
              have M7 : Hid (Mv w wr blk C N el (fun x => t (roI s m f x))) := M6.out
              have X7 : Hid (wr.heap[w.heap.size]? = some (boxT g sf lb sb)) := X6.out
              have R7 : Hid (Rea a c (fun x => t (roI s m f x)) (fun x => t (roI s m f x))) := Rea.refl _ _ _
              have S7 : Hid (Srt key (fun x => t (roI s m f x)) a c) := PL.out.2.1 g2
              have FIN : Hid _ := PL.out.2.2.2.2 _ _ R7.out (Rea.refl c b _) S7.out (PL.out.2.2.2.1 g3 _ R7.out)
              go_wp2_with fail
              all_goals go_end0
              all_goals exact ⟨rfl, _, M7.out, FIN.out⟩
  · go_enter Tryz.func91, Tryz.ntmps91
    go_wp2_with fail
    go_loopw [18, 19] (fun vs vr wr => ∃ s r : Nat, a ≤ s ∧ s ≤ r ∧ r ≤ m ∧ vs = .int .i64 s ∧ vr = .int .i64 r ∧ Mv w wr blk C N el t ∧ wr.heap[w.heap.size]? = some (boxT g sf lb sb) ∧ (s = a ∨ key (t (s - 1)) ≤ key (t (c + m - s))) ∧ (r = m ∨ key (t (c + m - 1 - r)) < key (t r))) (fun vs vr _ => (intOf vr).toNat - (intOf vs).toNat)
    case atStart => exact ⟨a, m, Nat.le_refl _, by omega, Nat.le_refl _, by go_num, by go_num, H0.out, HB.out, Or.inl rfl, Or.inl rfl⟩
    case round =>
      obtain ⟨s, r, hls, hsr, hrh, rfl, rfl, hm, hbx, hlo, hhi⟩ := hrel
      have HM : Hid _ := hm
      have HX : Hid (wr.heap[w.heap.size]? = some (boxT g sf lb sb)) := hbx
      have HLO : Hid (s = a ∨ key (t (s - 1)) ≤ key (t (c + m - s))) := hlo
      have HHI : Hid (r = m ∨ key (t (c + m - 1 - r)) < key (t r)) := hhi
      have c0 : wr.cell? ⟨w.heap.size, 0, none⟩ = some (.func (.func g) #[] lb) := (cell_of_row wr w.heap.size 0 _ _ (0, 0) hbx).trans rfl
      have c1 : wr.cell? ⟨w.heap.size, 1, none⟩ = some (.func (.func sf) #[] sb) := (cell_of_row wr w.heap.size 1 _ _ (0, 0) hbx).trans rfl
      clear hm hbx hlo hhi H0 HB
      by_cases hi1 : s < r
      · obtain ⟨q, hq⟩ : ∃ q : Nat, (q : Int) = ((s : Int) + r) / 2 := ⟨(s + r) / 2, by omega⟩
        have k3 : s + r ≤ 2 * q + 1 := by omega
        have k4 : 2 * q ≤ s + r := by omega
        have hq' : ((s : Int) + r) / 2 = q := hq.symm
        clear hq
        by_cases hlv : key (t (c + m - 1 - q)) < key (t q)
        · have HLL : Hid (Calls Tryz.prog g (#[.int .i64 ((c : Int) + m - 1 - q), .int .i64 (q : Int)] ++ lb) wr fun e W' => e = .returned (.bool true) ∧ Below wr.heap.size wr W') := HL.out.at (HM0.out.trans HM.out) (i := c + m - 1 - q) (j := q) (by omega) (by omega) (by omega) rfl rfl rfl (decide_eq_true hlv)
          have HLV : Hid (key (t (c + m - 1 - q)) < key (t q)) := hlv
          clear hlv
          go_wp2_with fail
          refine HLL.out.mono ?_
          rintro e w5 ⟨rfl, hb5⟩
          have HM5 : Hid _ := HM.out.below hb5 (Nat.le_refl _)
          have HX5 : Hid (w5.heap[w.heap.size]? = some (boxT g sf lb sb)) := (hb5.block _ (lt_of_block HX.out)).trans HX.out
          clear hb5 c0 c1 HLL
          go_wp2_with fail
          go_roundw
          case rel => exact ⟨s, q, hls, by omega, by omega, rfl, by go_num, HM5.out, HX5.out, HLO.out, Or.inr HLV.out⟩
          case measure => simp [intOf]; omega
        · have HLL : Hid (Calls Tryz.prog g (#[.int .i64 ((c : Int) + m - 1 - q), .int .i64 (q : Int)] ++ lb) wr fun e W' => e = .returned (.bool false) ∧ Below wr.heap.size wr W') := HL.out.at (HM0.out.trans HM.out) (i := c + m - 1 - q) (j := q) (by omega) (by omega) (by omega) rfl rfl rfl (decide_eq_false hlv)
          have HLV : Hid (key (t q) ≤ key (t (c + m - 1 - q))) := (show key (t q) ≤ key (t (c + m - 1 - q)) by omega)
          clear hlv
          go_wp2_with fail
          refine HLL.out.mono ?_
          rintro e w5 ⟨rfl, hb5⟩
          have HM5 : Hid _ := HM.out.below hb5 (Nat.le_refl _)
          have HX5 : Hid (w5.heap[w.heap.size]? = some (boxT g sf lb sb)) := (hb5.block _ (lt_of_block HX.out)).trans HX.out
          clear hb5 c0 c1 HLL
          go_wp2_with fail
          go_roundw
          case rel => exact ⟨q + 1, r, by omega, by omega, hrh, by go_num, rfl, HM5.out, HX5.out, Or.inr (by rw [show q + 1 - 1 = q by omega, show c + m - (q + 1) = c + m - 1 - q by omega]; exact HLV.out), HHI.out⟩
          case measure => simp [intOf]; omega
      · obtain rfl : s = r := by omega
        obtain ⟨f, hf⟩ : ∃ f : Nat, (f : Int) = (c : Int) + m - s := ⟨c + m - s, by omega⟩
        have hf' : (c : Int) + m - s = f := hf.symm
        have k5 : f + s = c + m := by omega
        clear hf
        have PL : Hid _ := sym_plain (key := key) (t := t) (a := a) (s := s) (m := m) (e := f) (b := b) (c := c) HI.out.1 HI.out.2.1 HI.out.2.2 (by omega) (by omega) (by omega) (by omega) (by omega)
          (by rcases HLO.out with h | h
              · omega
              · right; right; rwa [show f = c + m - s by omega])
          (by rcases HHI.out with h | h
              · omega
              · right; right; rwa [show f - 1 = c + m - 1 - s by omega])
        clear HLO HHI
        by_cases g1 : s < m ∧ m < f
        · by_cases g2 : a < s ∧ s < c
          · by_cases g3 : c < f ∧ f < b
            · go_wp2_with fail
              refine (rotate_any g sf lb sb wr blk C N s m f el t hel HS.out HM.out.row hN g1.1 g1.2 (by omega)).mono ?_
              rintro e w6 ⟨rfl, h6⟩
              have M6 : Hid (Mv w w6 blk C N el (fun x => t (roI s m f x))) := HM.out.trans h6
              have hx6 := (h6.block _ (lt_of_block HX.out) HN.out).trans HX.out
              have X6 : Hid (w6.heap[w.heap.size]? = some (boxT g sf lb sb)) := hx6
              clear c0 c1 h6
              have c0 : w6.cell? ⟨w.heap.size, 0, none⟩ = some (.func (.func g) #[] lb) := (cell_of_row w6 w.heap.size 0 _ _ (0, 0) hx6).trans rfl
              have c1 : w6.cell? ⟨w.heap.size, 1, none⟩ = some (.func (.func sf) #[] sb) := (cell_of_row w6 w.heap.size 1 _ _ (0, 0) hx6).trans rfl
              clear hx6
              go_wp2_with fail
              refine (HC.out w6 a s c _ (by omega) (HM0.out.trans M6.out) g2.1 g2.2 (by omega) PL.out.1.1 PL.out.1.2.1 PL.out.1.2.2).mono ?_
              rintro e w7 ⟨rfl, u, h7, r7, s7⟩
              have M7 : Hid (Mv w w7 blk C N el u) := M6.out.trans h7
              have hx7 := (h7.block _ (lt_of_block X6.out) HN.out).trans X6.out
              have X7 : Hid (w7.heap[w.heap.size]? = some (boxT g sf lb sb)) := hx7
              have R7 : Hid (Rea a c (fun x => t (roI s m f x)) u) := r7
              have S7 : Hid (Srt key u a c) := s7
              clear c0 c1 h7 r7 s7
              have c0 : w7.cell? ⟨w.heap.size, 0, none⟩ = some (.func (.func g) #[] lb) := (cell_of_row w7 w.heap.size 0 _ _ (0, 0) hx7).trans rfl
              have c1 : w7.cell? ⟨w.heap.size, 1, none⟩ = some (.func (.func sf) #[] sb) := (cell_of_row w7 w.heap.size 1 _ _ (0, 0) hx7).trans rfl
              clear hx7
              go_wp2_with fail
              refine (HC.out w7 c f b _ (by omega) (HM0.out.trans M7.out) g3.1 g3.2 (by omega) (PL.out.2.2.1 _ R7.out).1 (PL.out.2.2.1 _ R7.out).2.1 (PL.out.2.2.1 _ R7.out).2.2).mono ?_
              rintro e w8 ⟨rfl, u', h8, r8, s8⟩
              have M8 : Hid (Mv w w8 blk C N el u') := M7.out.trans h8
              have FIN : Hid _ := PL.out.2.2.2.2 _ u' R7.out r8 S7.out s8
              clear c0 c1 h8 r8 s8
              go_wp2_with fail
              all_goals go_end0
              all_goals exact ⟨rfl, u', M8.out, FIN.out⟩
            · go_wp2_with fail
              refine (rotate_any g sf lb sb wr blk C N s m f el t hel HS.out HM.out.row hN g1.1 g1.2 (by omega)).mono ?_
              rintro e w6 ⟨rfl, h6⟩
              have M6 : Hid (Mv w w6 blk C N el (fun x => t (roI s m f x))) := HM.out.trans h6
              have hx6 := (h6.block _ (lt_of_block HX.out) HN.out).trans HX.out
              have X6 : Hid (w6.heap[w.heap.size]? = some (boxT g sf lb sb)) := hx6
              clear c0 c1 h6
              have c0 : w6.cell? ⟨w.heap.size, 0, none⟩ = some (.func (.func g) #[] lb) := (cell_of_row w6 w.heap.size 0 _ _ (0, 0) hx6).trans rfl
              have c1 : w6.cell? ⟨w.heap.size, 1, none⟩ = some (.func (.func sf) #[] sb) := (cell_of_row w6 w.heap.size 1 _ _ (0, 0) hx6).trans rfl
              clear hx6
              go_wp2_with fail
              refine (HC.out w6 a s c _ (by omega) (HM0.out.trans M6.out) g2.1 g2.2 (by omega) PL.out.1.1 PL.out.1.2.1 PL.out.1.2.2).mono ?_
              rintro e w7 ⟨rfl, u, h7, r7, s7⟩
              have M7 : Hid (Mv w w7 blk C N el u) := M6.out.trans h7
              have hx7 := (h7.block _ (lt_of_block X6.out) HN.out).trans X6.out
              have X7 : Hid (w7.heap[w.heap.size]? = some (boxT g sf lb sb)) := hx7
              have R7 : Hid (Rea a c (fun x => t (roI s m f x)) u) := r7
              have S7 : Hid (Srt key u a c) := s7
              clear c0 c1 h7 r7 s7
              have c0 : w7.cell? ⟨w.heap.size, 0, none⟩ = some (.func (.func g) #[] lb) := (cell_of_row w7 w.heap.size 0 _ _ (0, 0) hx7).trans rfl
              have c1 : w7.cell? ⟨w.heap.size, 1, none⟩ = some (.func (.func sf) #[] sb) := (cell_of_row w7 w.heap.size 1 _ _ (0, 0) hx7).trans rfl
              clear hx7
              have FIN : Hid _ := PL.out.2.2.2.2 _ _ R7.out (Rea.refl c b _) S7.out (PL.out.2.2.2.1 g3 _ R7.out)
              go_wp2_with fail
              all_goals go_end0
              all_goals exact ⟨rfl, _, M7.out, FIN.out⟩
          · by_cases g3 : c < f ∧ f < b
            · go_wp2_with fail
              refine (rotate_any g sf lb sb wr blk C N s m f el t hel HS.out HM.out.row hN g1.1 g1.2 (by omega)).mono ?_
              rintro e w6 ⟨rfl, h6⟩
              have M6 : Hid (Mv w w6 blk C N el (fun x => t (roI s m f x))) := HM.out.trans h6
              have hx6 := (h6.block _ (lt_of_block HX.out) HN.out).trans HX.out
              have X6 : Hid (w6.heap[w.heap.size]? = some (boxT g sf lb sb)) := hx6
              clear c0 c1 h6
              have c0 : w6.cell? ⟨w.heap.size, 0, none⟩ = some (.func (.func g) #[] lb) := (cell_of_row w6 w.heap.size 0 _ _ (0, 0) hx6).trans rfl
              have c1 : w6.cell? ⟨w.heap.size, 1, none⟩ = some (.func (.func sf) #[] sb) := (cell_of_row w6 w.heap.size 1 _ _ (0, 0) hx6).trans rfl
              clear hx6
              have M7 : Hid (Mv w w6 blk C N el (fun x => t (roI s m f x))) := M6.out
              have X7 : Hid (w6.heap[w.heap.size]? = some (boxT g sf lb sb)) := X6.out
              have R7 : Hid (Rea a c (fun x => t (roI s m f x)) (fun x => t (roI s m f x))) := Rea.refl _ _ _
              have S7 : Hid (Srt key (fun x => t (roI s m f x)) a c) := PL.out.2.1 g2
              go_wp2_with fail
              refine (HC.out w6 c f b _ (by omega) (HM0.out.trans M7.out) g3.1 g3.2 (by omega) (PL.out.2.2.1 _ R7.out).1 (PL.out.2.2.1 _ R7.out).2.1 (PL.out.2.2.1 _ R7.out).2.2).mono ?_
              rintro e w8 ⟨rfl, u', h8, r8, s8⟩
              have M8 : Hid (Mv w w8 blk C N el u') := M7.out.trans h8
              have FIN : Hid _ := PL.out.2.2.2.2 _ u' R7.out r8 S7.out s8
              clear c0 c1 h8 r8 s8
              go_wp2_with fail
              all_goals go_end0
              all_goals exact ⟨rfl, u', M8.out, FIN.out⟩
            · go_wp2_with fail
              refine (rotate_any g sf lb sb wr blk C N s m f el t hel HS.out HM.out.row hN g1.1 g1.2 (by omega)).mono ?_
              rintro e w6 ⟨rfl, h6⟩
              have M6 : Hid (Mv w w6 blk C N el (fun x => t (roI s m f x))) := HM.out.trans h6
              have hx6 := (h6.block _ (lt_of_block HX.out) HN.out).trans HX.out
              have X6 : Hid (w6.heap[w.heap.size]? = some (boxT g sf lb sb)) := hx6
              clear c0 c1 h6
              have c0 : w6.cell? ⟨w.heap.size, 0, none⟩ = some (.func (.func g) #[] lb) := (cell_of_row w6 w.heap.size 0 _ _ (0, 0) hx6).trans rfl
              have c1 : w6.cell? ⟨w.heap.size, 1, none⟩ = some (.func (.func sf) #[] sb) := (cell_of_row w6 w.heap.size 1 _ _ (0, 0) hx6).trans rfl
              clear hx6
              have M7 : Hid (Mv w w6 blk C N el (fun x => t (roI s m f x))) := M6.out
              have X7 : Hid (w6.heap[w.heap.size]? = some (boxT g sf lb sb)) := X6.out
              have R7 : Hid (Rea a c (fun x => t (roI s m f x)) (fun x => t (roI s m f x))) := Rea.refl _ _ _
              have S7 : Hid (Srt key (fun x => t (roI s m f x)) a c) := PL.out.2.1 g2
              have FIN : Hid _ := PL.out.2.2.2.2 _ _ R7.out (Rea.refl c b _) S7.out (PL.out.2.2.2.1 g3 _ R7.out)
              go_wp2_with fail
              all_goals go_end0
              all_goals exact ⟨rfl, _, M7.out, FIN.out⟩
        · by_cases g2 : a < s ∧ s < c
          · by_cases g3 : c < f ∧ f < b
            · exfalso
              omega
            · have M6 : Hid (Mv w wr blk C N el (fun x => t (roI s m f x))) := HM.out.congr (fun x _ => by show t (roI s m f x) = t x; rw [ro_id (by omega) (by omega) (by omega)])
              have X6 : Hid (wr.heap[w.heap.size]? = some (boxT g sf lb sb)) := HX.out
              go_wp2_with fail
              refine (HC.out wr a s c _ (by omega) (HM0.out.trans M6.out) g2.1 g2.2 (by omega) PL.out.1.1 PL.out.1.2.1 PL.out.1.2.2).mono ?_
              rintro e w7 ⟨rfl, u, h7, r7, s7⟩
              have M7 : Hid (Mv w w7 blk C N el u) := M6.out.trans h7
              have hx7 := (h7.block _ (lt_of_block X6.out) HN.out).trans X6.out
              have X7 : Hid (w7.heap[w.heap.size]? = some (boxT g sf lb sb)) := hx7
              have R7 : Hid (Rea a c (fun x => t (roI s m f x)) u) := r7
              have S7 : Hid (Srt key u a c) := s7
              clear c0 c1 h7 r7 s7
              have c0 : w7.cell? ⟨w.heap.size, 0, none⟩ = some (.func (.func g) #[] lb) := (cell_of_row w7 w.heap.size 0 _ _ (0, 0) hx7).trans rfl
              have c1 : w7.cell? ⟨w.heap.size, 1, none⟩ = some (.func (.func sf) #[] sb) := (cell_of_row w7 w.heap.size 1 _ _ (0, 0) hx7).trans rfl
              clear hx7
              have FIN : Hid _ := PL.out.2.2.2.2 _ _ R7.out (Rea.refl c b _) S7.out (PL.out.2.2.2.1 g3 _ R7.out)
              go_wp2_with fail
              all_goals go_end0
              all_goals exact ⟨rfl, _, M7.out, FIN.out⟩
          · by_cases g3 : c < f ∧ f < b
            · exfalso
              omega
            · have M6 : Hid (Mv w wr blk C N el (fun x => t (roI s m f x))) := HM.out.congr (fun x _ => by show t (roI s m f x) = t x; rw [ro_id (by omega) (by omega) (by omega)])
              have X6 : Hid (wr.heap[w.heap.size]? = some (boxT g sf lb sb)) := HX.out
              have M7 : Hid (Mv w wr blk C N el (fun x => t (roI s m f x))) := M6.out
              have X7 : Hid (wr.heap[w.heap.size]? = some (boxT g sf lb sb)) := X6.out
              have R7 : Hid (Rea a c (fun x => t (roI s m f x)) (fun x => t (roI s m f x))) := Rea.refl _ _ _
              have S7 : Hid (Srt key (fun x => t (roI s m f x)) a c) := PL.out.2.1 g2
              have FIN : Hid _ := PL.out.2.2.2.2 _ _ R7.out (Rea.refl c b _) S7.out (PL.out.2.2.2.1 g3 _ R7.out)
              go_wp2_with fail
              all_goals go_end0
              all_goals exact ⟨rfl, _, M7.out, FIN.out⟩

theorem sym_any (g sf : Nat) (lb sb : Array Value) (w0 : World) (blk C N : Nat) (el : Nat → List Value) (key : Nat → Int) (eg : ∀ args w, (callFunc g args).run Tryz.prog w = .ok (.enter g args) w) (hel : ∀ x, (el x).length = 5) (hS : SwapT Tryz.prog sf sb blk C N el)
    (hL : LessT Tryz.prog g lb w0 blk C N el key) (hN : N ≤ 1000) : ∀ d, SymC g sf lb sb w0 blk C N el key d
  | 0 => fun w a m b t hd _ h1 h2 _ _ _ _ => by omega
  | d + 1 => fun w a m b t hd hm h1 h2 h3 s1 s2 ap => by
    by_cases e1 : m = a + 1
    · exact sym_one g sf lb sb w0 w blk C N a m b el t key eg hel hS hL hm hN e1 h2 h3 s2 ap
    by_cases e2 : b = m + 1
    · exact sym_last g sf lb sb w0 w blk C N a m b el t key eg hel hS hL hm hN (by omega) e2 h3 s1 ap
    exact sym_gen g sf lb sb w0 w blk C N a m b d el t key eg hel hS hL hm hN (by omega) (by omega) h3 s1 s2 ap hd (sym_any g sf lb sb w0 blk C N el key eg hel hS hL hN d)
end Go.Proofs.YtcoijhofliilmabGreatDoor

/-
  A stable sort by blocks, over plain functions: blocks of twenty, sorted by insertion, are merged two by two. No program is named here.
-/
namespace Go.Proofs.YtcoijhofliilmabGreatDoor
open Go.RowKit

/-- each block k of bs places, of those that p tells, is sorted, and has what lay in it at first -/
structure Blk (key : Nat → Int) (u : Nat → Nat) (bs n : Nat) (p : Nat → Prop) : Prop where
  tag : ∀ k x, p k → k * bs ≤ x → x < k * bs + bs → x < n → k * bs ≤ u x ∧ u x < k * bs + bs ∧ u x < n
  srt : ∀ k x y, p k → k * bs ≤ x → x < y → y < k * bs + bs → y < n → Rk key (u x) (u y)

section
variable {key : Nat → Int} {u u' : Nat → Nat} {bs n q : Nat} {p : Nat → Prop}
theorem mul_next (k B : Nat) : (k + 1) * B = k * B + B := Nat.succ_mul k B
theorem mul_le_of_lt {k q : Nat} (B : Nat) (h : k < q) : k * B + B ≤ q * B := by rw [← mul_next]; exact Nat.mul_le_mul_right B h
theorem two_mul_block (q bs : Nat) : (2 * q) * bs = q * (2 * bs) := by rw [Nat.mul_comm 2 q, Nat.mul_assoc]
theorem two_mul_block' (q bs : Nat) : (2 * q + 1) * bs = q * (2 * bs) + bs := by rw [mul_next, two_mul_block]
theorem Blk.all (h : Blk key u bs n (fun k => k < q)) (hn : n ≤ q * bs) : Blk key u bs n (fun _ => True) := by
  have out : ∀ k x, k * bs ≤ x → x < n → k < q := fun k x hk hx => by
    rcases Nat.lt_or_ge k q with h' | h'
    · exact h'
    · have := Nat.mul_le_mul_right bs h'; omega
  exact ⟨fun k x _ h1 h2 h3 => h.tag k x (out k x h1 h3) h1 h2 h3, fun k x y _ h1 h2 h3 h4 => h.srt k x y (out k x h1 (by omega)) h1 h2 h3 h4⟩
theorem Blk.one (h : Blk key u bs n (fun _ => True)) (hn : n ≤ bs) : Srt key u 0 n := fun x y _ hxy hy => h.srt 0 x y trivial (by omega) hxy (by omega) hy

/-- a block is sorted by insertion -/
theorem Blk.ins {b : Nat} (h : Blk key u 20 n (fun k => k < q)) (hid : ∀ x, q * 20 ≤ x → u x = x) (hb : b = q * 20 + 20 ∨ (b = n ∧ n ≤ q * 20 + 20)) (hqn : q * 20 ≤ b) (hbn : b ≤ n) (hr : Rea (q * 20) b u u') (hs : Srt key u' (q * 20) b) :
    Blk key u' 20 n (fun k => k < q + 1) ∧ ∀ x, b ≤ x → u' x = x := by
  refine ⟨⟨fun k x hk h1 h2 h3 => ?_, fun k x y hk h1 h2 h3 h4 => ?_⟩, fun x hx => by rw [hr.out (Or.inr hx)]; exact hid x (by omega)⟩
  · by_cases e : k = q
    · subst e
      obtain ⟨y, ya, yb, e⟩ := hr.mem (x := x) h1 (by omega)
      rw [e, hid y ya]; omega
    · rw [hr.out (x := x) (Or.inl (by omega))]; exact h.tag k x (by omega) h1 h2 h3
  · by_cases e : k = q
    · subst e; exact hs x y h1 h2 (by omega)
    · rw [hr.out (x := x) (Or.inl (by omega)), hr.out (x := y) (Or.inl (by omega))]; exact h.srt k x y (by omega) h1 h2 h3 h4

/-- what two blocks ask to be merged -/
theorem Blk.ready {a b : Nat} (h : Blk key u bs n (fun k => 2 * q ≤ k)) (ha : a = q * (2 * bs)) (hb : b ≤ a + 2 * bs) (hbn : b ≤ n) : Srt key u a (min (a + bs) b) ∧ Srt key u (a + bs) b ∧ Apt u a (a + bs) b := by
  have e1 : (2 * q) * bs = a := by rw [two_mul_block, ha]
  have e2 : (2 * q + 1) * bs = a + bs := by rw [two_mul_block', ha]
  refine ⟨fun x y hx hxy hy => h.srt (2 * q) x y (Nat.le_refl _) (by rw [e1]; exact hx) hxy (by rw [e1]; omega) (by omega), fun x y hx hxy hy => h.srt (2 * q + 1) x y (by show 2 * q ≤ 2 * q + 1; omega) (by rw [e2]; exact hx) hxy (by rw [e2]; omega) (by omega), fun x y hx hxs hy hyb => ?_⟩
  have t1 := h.tag (2 * q) x (Nat.le_refl _) (by rw [e1]; exact hx) (by rw [e1]; exact hxs) (by omega)
  have t2 := h.tag (2 * q + 1) y (by show 2 * q ≤ 2 * q + 1; omega) (by rw [e2]; exact hy) (by rw [e2]; omega) (by omega)
  rw [e1] at t1
  rw [e2] at t2
  omega
/-- two blocks are merged -/
theorem Blk.merge {a b : Nat} (h2 : Blk key u (2 * bs) n (fun k => k < q)) (h : Blk key u bs n (fun k => 2 * q ≤ k)) (ha : a = q * (2 * bs)) (hb : b = a + 2 * bs ∨ (b = n ∧ n ≤ a + 2 * bs)) (hbn : b ≤ n) (hr : Rea a b u u') (hs : Srt key u' a b) :
    Blk key u' (2 * bs) n (fun k => k < q + 1) ∧ Blk key u' bs n (fun k => 2 * (q + 1) ≤ k) := by
  have e1 : (2 * q) * bs = a := by rw [two_mul_block, ha]
  have e2 : (2 * q + 1) * bs = a + bs := by rw [two_mul_block', ha]
  have e3 : (2 * (q + 1)) * bs = a + 2 * bs := by rw [two_mul_block, mul_next, ha]
  have low : ∀ k, k < q → k * (2 * bs) + 2 * bs ≤ a := fun k hk => by rw [ha]; exact mul_le_of_lt _ hk
  have high : ∀ k, 2 * (q + 1) ≤ k → a + 2 * bs ≤ k * bs := fun k hk => by rw [← e3]; exact Nat.mul_le_mul_right bs hk
  refine ⟨⟨fun k x hk g1 g2 g3 => ?_, fun k x y hk g1 g2 g3 g4 => ?_⟩, ⟨fun k x hk g1 g2 g3 => ?_, fun k x y hk g1 g2 g3 g4 => ?_⟩⟩
  · by_cases e : k = q
    · subst e
      rw [← ha] at g1 g2 ⊢
      obtain ⟨y, ya, yb, e⟩ := hr.mem (x := x) g1 (by omega)
      rw [e]
      by_cases hy : y < a + bs
      · have := h.tag (2 * k) y (Nat.le_refl _) (by rw [e1]; exact ya) (by rw [e1]; exact hy) (by omega)
        rw [e1] at this; omega
      · have := h.tag (2 * k + 1) y (by show 2 * k ≤ 2 * k + 1; omega) (by rw [e2]; omega) (by rw [e2]; omega) (by omega)
        rw [e2] at this; omega
    · have := low k (by omega)
      rw [hr.out (x := x) (Or.inl (by omega))]; exact h2.tag k x (by omega) g1 g2 g3
  · by_cases e : k = q
    · subst e
      rw [← ha] at g1 g3
      exact hs x y g1 g2 (by omega)
    · have := low k (by omega)
      rw [hr.out (x := x) (Or.inl (by omega)), hr.out (x := y) (Or.inl (by omega))]; exact h2.srt k x y (by omega) g1 g2 g3 g4
  · have := high k hk
    rw [hr.out (x := x) (Or.inr (by omega))]; exact h.tag k x (by show 2 * q ≤ k; omega) g1 g2 g3
  · have := high k hk
    rw [hr.out (x := x) (Or.inr (by omega)), hr.out (x := y) (Or.inr (by omega))]; exact h.srt k x y (by show 2 * q ≤ k; omega) g1 g2 g3 g4
/-- where the second block is empty there is nothing to merge -/
theorem Blk.rest {a : Nat} (h2 : Blk key u (2 * bs) n (fun k => k < q)) (h : Blk key u bs n (fun k => 2 * q ≤ k)) (ha : a = q * (2 * bs)) (hn : n ≤ a + bs) : Blk key u (2 * bs) n (fun k => k < q + 1) := by
  have e1 : (2 * q) * bs = a := by rw [two_mul_block, ha]
  refine ⟨fun k x hk g1 g2 g3 => ?_, fun k x y hk g1 g2 g3 g4 => ?_⟩
  · by_cases e : k = q
    · subst e
      rw [← ha] at g1 g2 ⊢
      have := h.tag (2 * k) x (Nat.le_refl _) (by rw [e1]; exact g1) (by rw [e1]; omega) g3
      rw [e1] at this; omega
    · exact h2.tag k x (by omega) g1 g2 g3
  · by_cases e : k = q
    · subst e
      rw [← ha] at g1 g3
      exact h.srt (2 * k) x y (Nat.le_refl _) (by rw [e1]; exact g1) g2 (by rw [e1]; omega) g4
    · exact h2.srt k x y (by omega) g1 g2 g3 g4
theorem Blk.none (key : Nat → Int) (u : Nat → Nat) (bs n : Nat) : Blk key u bs n (fun k => k < 0) := ⟨fun _ _ h => absurd h (by omega), fun _ _ _ h => absurd h (by omega)⟩
theorem Blk.from (h : Blk key u bs n (fun _ => True)) : Blk key u bs n (fun k => 2 * 0 ≤ k) := ⟨fun k x _ => h.tag k x trivial, fun k x y _ => h.srt k x y trivial⟩
end
end Go.Proofs.YtcoijhofliilmabGreatDoor
