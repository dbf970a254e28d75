/-
  What sort's stable_func does to the row, over this translation: it is sorted, stably. Conditions stand in the theorem: where the row lies, what is asked of 'less' and 'swap'.
-/
import Derived.Test.YtcoijhofliilmabGreatDoorGI
import Derived.Lib.ReflectliteSlice
import Derived.Lib.ReflectliteSwap
import Derived.Test.YtcoijhofliilmabGreatDoorGG
import Derived.Test.YtcoijhofliilmabGreatDoorGH
import Derived.Deep.RegionHeld3
namespace Go.Proofs.YtcoijhofliilmabGreatDoor
open Go.RowKit

set_option maxRecDepth 4000 in
set_option maxHeartbeats 8000000 in
theorem stable_any (g sf : Nat) (lb sb : Array Value) (w : World) (blk C N : Nat) (el : Nat → List Value) (key : Nat → Int) (eg : ∀ args w, (callFunc g args).run Tryz.prog w = .ok (.enter g args) w) (hel : ∀ x, (el x).length = 5) (hS : SwapT Tryz.prog sf sb blk C N el)
    (hL : LessT Tryz.prog g lb w blk C N el key) (h : RowT w blk C N el (fun x => x)) (hN : N ≤ 1000) :
    Calls Tryz.prog 70 #[.agg #[.func (.func g) #[] lb, .func (.func sf) #[] sb], .int .i64 N] w fun e w' => e = .returned (.tuple #[]) ∧ ∃ u, Mv w w' blk C N el u ∧ Rea 0 N (fun x => x) u ∧ Srt key u 0 N := by
  have H0 : Hid (Mv w (w.alloc (boxT g sf lb sb)) blk C N el (fun x => x)) := (Mv.start h).below ((Below.refl _ _).alloc (Nat.le_refl _) _) (Nat.le_refl _)
  have HB : Hid ((w.alloc (boxT g sf lb sb)).heap[w.heap.size]? = some (boxT g sf lb sb)) := heap_alloc_new w _
  have HN : Hid (w.heap.size ≠ blk) := fun e => by have := h.lt; omega
  have HS : Hid (SwapT Tryz.prog sf sb blk C N el) := hS
  have HL : Hid (LessT Tryz.prog g lb w blk C N el key) := hL
  have HSY : Hid (∀ d, SymC g sf lb sb w blk C N el key d) := sym_any g sf lb sb w blk C N el key eg hel hS hL hN
  clear h hS hL
  go_enter Tryz.func70, Tryz.ntmps70
  go_wp2_with fail
  go_loopw [5, 6] (fun va vb wr => ∃ (q a : Nat) (u : Nat → Nat), a = q * 20 ∧ a ≤ N ∧ va = .int .i64 a ∧ vb = .int .i64 ((a : Int) + 20) ∧ Mv w wr blk C N el u ∧ wr.heap[w.heap.size]? = some (boxT g sf lb sb) ∧ Rea 0 N (fun x => x) u ∧ Blk key u 20 N (fun k => k < q) ∧ ∀ x, q * 20 ≤ x → u x = x) (fun va _ _ => N - (intOf va).toNat)
  case atStart => exact ⟨0, 0, fun x => x, rfl, Nat.zero_le _, rfl, rfl, H0.out, HB.out, Rea.refl _ _ _, Blk.none _ _ _ _, fun _ _ => rfl⟩
  case round =>
    obtain ⟨q, a, u, haq, haN, rfl, rfl, hm, hbx, hr, hblk, hid⟩ := hrel
    have HM : Hid _ := hm
    have HX : Hid (wr.heap[w.heap.size]? = some (boxT g sf lb sb)) := hbx
    have HR : Hid (Rea 0 N (fun x => x) u) := hr
    have HK : Hid (Blk key u 20 N (fun k => k < q)) := hblk
    have HID : Hid (∀ x, q * 20 ≤ x → u x = x) := hid
    have HQ : Hid (a = q * 20) := haq
    have c0 : wr.cell? ⟨w.heap.size, 0, none⟩ = some (.func (.func g) #[] lb) := (cell_of_row wr w.heap.size 0 _ _ (0, 0) hbx).trans rfl
    have c1 : wr.cell? ⟨w.heap.size, 1, none⟩ = some (.func (.func sf) #[] sb) := (cell_of_row wr w.heap.size 1 _ _ (0, 0) hbx).trans rfl
    clear hm hbx hr hblk hid haq H0 HB
    by_cases hi1 : a + 20 ≤ N
    · go_wp2_with fail
      refine (insSort_any g sf lb sb w wr blk C N a (a + 20) el u key eg hel HS.out HL.out HM.out hN (by omega) hi1 (fun x y hx hxy hy => by have := HQ.out; rw [HID.out x (by omega), HID.out y (by omega)]; exact hxy)).mono ?_
      rintro e w5 ⟨rfl, u', h5, r5, s5⟩
      have HM5 : Hid (Mv w w5 blk C N el u') := HM.out.trans h5
      have HX5 : Hid (w5.heap[w.heap.size]? = some (boxT g sf lb sb)) := (h5.block _ (lt_of_block HX.out) HN.out).trans HX.out
      have R5 : Hid (Rea a (a + 20) u u') := r5
      have S5 : Hid (Srt key u' a (a + 20)) := s5
      clear h5 r5 s5 c0 c1
      go_wp2_with fail
      go_roundw
      case rel =>
        have hq := HQ.out
        have r5 := R5.out
        have s5 := S5.out
        rw [hq] at r5 s5
        obtain ⟨k1, k2⟩ := HK.out.ins HID.out (Or.inl rfl) (by omega) (by omega) r5 s5
        exact ⟨q + 1, a + 20, u', by omega, hi1, by go_num, by go_num, HM5.out, HX5.out, HR.out.trans (R5.out.mono (Nat.zero_le _) hi1), k1, fun x hx => k2 x (by omega)⟩
      case measure => simp [intOf]; omega
    · go_wp2_with fail
      refine (insSort_any g sf lb sb w wr blk C N a N el u key eg hel HS.out HL.out HM.out hN haN (Nat.le_refl _) (fun x y hx hxy hy => by have := HQ.out; rw [HID.out x (by omega), HID.out y (by omega)]; exact hxy)).mono ?_
      rintro e w5 ⟨rfl, u', h5, r5, s5⟩
      have HM5 : Hid (Mv w w5 blk C N el u') := HM.out.trans h5
      have HX5 : Hid (w5.heap[w.heap.size]? = some (boxT g sf lb sb)) := (h5.block _ (lt_of_block HX.out) HN.out).trans HX.out
      have HR5 : Hid (Rea 0 N (fun x => x) u') := HR.out.trans (r5.mono (Nat.zero_le _) (Nat.le_refl _))
      have HK5 : Hid (Blk key u' 20 N (fun _ => True)) := by
        have hq := HQ.out
        rw [hq] at r5 s5
        obtain ⟨k1, k2⟩ := HK.out.ins HID.out (Or.inr ⟨rfl, by omega⟩) (by omega) (Nat.le_refl _) r5 s5
        exact k1.all (by omega)
      clear h5 r5 s5 c0 c1 HM HX HR HK HID HQ
      go_wp2_with fail
      go_loopw [4] (fun vs wr2 => ∃ (bs : Nat) (v : Nat → Nat), 20 ≤ bs ∧ bs ≤ 2000 ∧ vs = .int .i64 bs ∧ Mv w wr2 blk C N el v ∧ wr2.heap[w.heap.size]? = some (boxT g sf lb sb) ∧ Rea 0 N (fun x => x) v ∧ Blk key v bs N (fun _ => True)) (fun vs _ => 2000 - (intOf vs).toNat)
      case atStart => exact ⟨20, u', Nat.le_refl _, by omega, rfl, HM5.out, HX5.out, HR5.out, HK5.out⟩
      case round =>
        obtain ⟨bs, v, hbs, hbs2, rfl, hm, hbx, hr, hblk⟩ := hrel
        have HM : Hid _ := hm
        have HX : Hid (wr.heap[w.heap.size]? = some (boxT g sf lb sb)) := hbx
        have HR : Hid (Rea 0 N (fun x => x) v) := hr
        have HK : Hid (Blk key v bs N (fun _ => True)) := hblk
        clear hm hbx hr hblk HM5 HX5 HR5 HK5
        by_cases hb1 : bs < N
        · go_wp2_with fail
          go_loopw [5, 6] (fun va vb wr3 => ∃ (q a : Nat) (u : Nat → Nat), a = q * (2 * bs) ∧ a ≤ N ∧ va = .int .i64 a ∧ vb = .int .i64 ((a : Int) + 2 * bs) ∧ Mv w wr3 blk C N el u ∧ wr3.heap[w.heap.size]? = some (boxT g sf lb sb) ∧ Rea 0 N (fun x => x) u ∧ Blk key u (2 * bs) N (fun k => k < q) ∧ Blk key u bs N (fun k => 2 * q ≤ k)) (fun va _ _ => N - (intOf va).toNat)
          case atStart => exact ⟨0, 0, v, by simp, Nat.zero_le _, rfl, by go_num, HM.out, HX.out, HR.out, Blk.none _ _ _ _, HK.out.from⟩
          case round =>
            obtain ⟨q, a, u, haq, haN, rfl, rfl, hm, hbx, hr, hb2, hb3⟩ := hrel
            have HM3 : Hid _ := hm
            have HX3 : Hid (wr.heap[w.heap.size]? = some (boxT g sf lb sb)) := hbx
            have HR3 : Hid (Rea 0 N (fun x => x) u) := hr
            have HK3 : Hid (Blk key u (2 * bs) N (fun k => k < q) ∧ Blk key u bs N (fun k => 2 * q ≤ k)) := ⟨hb2, hb3⟩
            have HQ : Hid (a = q * (2 * bs)) := haq
            have c0 : wr.cell? ⟨w.heap.size, 0, none⟩ = some (.func (.func g) #[] lb) := (cell_of_row wr w.heap.size 0 _ _ (0, 0) hbx).trans rfl
            have c1 : wr.cell? ⟨w.heap.size, 1, none⟩ = some (.func (.func sf) #[] sb) := (cell_of_row wr w.heap.size 1 _ _ (0, 0) hbx).trans rfl
            clear hm hbx hr hb2 hb3 haq HM HX HR HK
            by_cases ha1 : a + 2 * bs ≤ N
            · go_wp2_with fail
              have hc := HSY.out (2 * bs) wr a (a + bs) (a + 2 * bs) u (by omega) HM3.out (by omega) (by omega) ha1 (((HK3.out.2.ready HQ.out (Nat.le_refl _) ha1).1).sub (Nat.le_refl _) (by omega)) (HK3.out.2.ready HQ.out (Nat.le_refl _) ha1).2.1 (HK3.out.2.ready HQ.out (Nat.le_refl _) ha1).2.2
              rw [show ((a + bs : Nat) : Int) = (a : Int) + bs by omega, show ((a + 2 * bs : Nat) : Int) = (a : Int) + 2 * bs by omega] at hc
              refine hc.mono ?_
              rintro e w5 ⟨rfl, u2, h5, r5, s5⟩
              have HM5 : Hid (Mv w w5 blk C N el u2) := HM3.out.trans h5
              have HX5 : Hid (w5.heap[w.heap.size]? = some (boxT g sf lb sb)) := (h5.block _ (lt_of_block HX3.out) HN.out).trans HX3.out
              have R5 : Hid (Rea a (a + 2 * bs) u u2) := r5
              have S5 : Hid (Srt key u2 a (a + 2 * bs)) := s5
              clear h5 r5 s5 c0 c1 hc
              go_wp2_with fail
              go_roundw
              case rel =>
                obtain ⟨k1, k2⟩ := HK3.out.1.merge HK3.out.2 HQ.out (Or.inl rfl) ha1 R5.out S5.out
                exact ⟨q + 1, a + 2 * bs, u2, by rw [mul_next q (2 * bs), ← HQ.out], ha1, by go_num, by go_num, HM5.out, HX5.out, HR3.out.trans (R5.out.mono (Nat.zero_le _) ha1), k1, k2⟩
              case measure => simp [intOf]; omega
            · by_cases ha2 : a + bs < N
              · go_wp2_with fail
                have hc := HSY.out (2 * bs) wr a (a + bs) N u (by omega) HM3.out (by omega) ha2 (Nat.le_refl _) (((HK3.out.2.ready HQ.out (b := N) (by omega) (Nat.le_refl _)).1).sub (Nat.le_refl _) (by omega)) (HK3.out.2.ready HQ.out (b := N) (by omega) (Nat.le_refl _)).2.1 (HK3.out.2.ready HQ.out (b := N) (by omega) (Nat.le_refl _)).2.2
                rw [show ((a + bs : Nat) : Int) = (a : Int) + bs by omega] at hc
                refine hc.mono ?_
                rintro e w5 ⟨rfl, u2, h5, r5, s5⟩
                have HM5 : Hid (Mv w w5 blk C N el u2) := HM3.out.trans h5
                have HX5 : Hid (w5.heap[w.heap.size]? = some (boxT g sf lb sb)) := (h5.block _ (lt_of_block HX3.out) HN.out).trans HX3.out
                have HR5 : Hid (Rea 0 N (fun x => x) u2) := HR3.out.trans (r5.mono (Nat.zero_le _) (Nat.le_refl _))
                have HK5 : Hid (Blk key u2 (2 * bs) N (fun _ => True)) := ((HK3.out.1.merge HK3.out.2 HQ.out (Or.inr ⟨rfl, by omega⟩) (Nat.le_refl _) r5 s5).1).all (by rw [mul_next q (2 * bs), ← HQ.out]; omega)
                clear h5 r5 s5 c0 c1 hc
                go_wp2_with fail
                go_roundw
                case rel => exact ⟨2 * bs, u2, by omega, by omega, by go_num, HM5.out, HX5.out, HR5.out, HK5.out⟩
                case measure => simp [intOf]; omega
              · have HK5 : Hid (Blk key u (2 * bs) N (fun _ => True)) := (HK3.out.1.rest HK3.out.2 HQ.out (by omega)).all (by rw [mul_next q (2 * bs), ← HQ.out]; omega)
                go_wp2_with fail
                go_roundw
                case rel => exact ⟨2 * bs, u, by omega, by omega, by go_num, HM3.out, HX3.out, HR3.out, HK5.out⟩
                case measure => simp [intOf]; omega
        · go_wp2_with fail
          go_end0
          exact ⟨rfl, v, HM.out, HR.out, HK.out.one (by omega)⟩
end Go.Proofs.YtcoijhofliilmabGreatDoor

/-
  What sort.SliceStable does to a slice of orders, over this translation: it is sorted, stably. Conditions stand in each theorem: where the slice lies, what is asked of 'less'.
-/
namespace Go.Proofs.YtcoijhofliilmabGreatDoor
open Go.RowKit Go.Extern

theorem Tryz.ordersInfo : Tryz.prog.info? 22 = some Tryz.t22 := by kernel_rfl
theorem Tryz.orderInfo : Tryz.prog.info? 40 = some Tryz.t40 := by kernel_rfl
theorem Tryz.ordersDesc : Tryz.t22.desc = .slice 40 := by kernel_rfl
theorem Tryz.orderKind (w : World) : (Rtype.kind 40).run Tryz.prog w = .ok 25 w := by kernel_rfl
theorem Tryz.orderAgg (w : World) : (isAgg 40).run Tryz.prog w = .ok true w := by kernel_rfl
theorem Tryz.ordersPacked : Tryz.prog.packed 22 = false := by kernel_rfl
theorem Tryz.orderSize : Tryz.t40.size = 5 := by kernel_rfl
theorem swapperK_nine {N : Nat} (h : 2 ≤ N) : Lib.swapperK N Tryz.t40 25 = 9 := by
  unfold Lib.swapperK
  rw [if_neg (by simp; omega), if_neg (by simp; omega)]
  kernel_rfl

/-- 'swap' pays what is asked of it -/
theorem swapT_lit (blk C N cap : Nat) (el : Nat → List Value) (hel : ∀ x, (el x).length = 5) (h1 : ∀ x, ∀ v ∈ el x, v.oneCell' = true) : SwapT Tryz.prog 89 #[.slice (some ⟨blk, 0, none⟩) N cap, typeHandle Tryz.prog 40] blk C N el := by
  intro W t hr i j hi hj _
  have cc : ∀ x, x < N → ∀ k v, (el (t x))[k]? = some v → W.cell? ⟨blk, 0 + x * Tryz.t40.size + k, none⟩ = some v := fun x hx k v hv => by
    have hk : k < 5 := by rw [← hel (t x)]; exact (List.getElem?_eq_some_iff.1 hv).1
    rw [Tryz.orderSize, Nat.zero_add, (hr.cell hx hk).1, hv]
  have ff : ∀ x, x < N → ∀ k, k < Tryz.t40.size → W.frozen? ⟨blk, 0 + x * Tryz.t40.size + k, none⟩ = false := fun x hx k hk => by
    rw [Tryz.orderSize] at hk ⊢
    rw [Nat.zero_add]; exact (hr.cell hx hk).2
  have hs := Lib.run_swap_cells (P := Tryz.prog) false 40 Tryz.t40 Tryz.orderInfo Tryz.orderAgg blk 0 N cap i j hi hj (el (t i)) (el (t j)) (by rw [hel, Tryz.orderSize]) (by rw [hel, Tryz.orderSize]) (h1 _) (h1 _) W (cc i hi) (cc j hj) (ff i hi) (ff j hj)
  rw [Tryz.orderSize, Nat.zero_add, Nat.zero_add] at hs
  have hx := @run_callFunc_extern Tryz.prog 89 _ (ReflectliteSwapper.swap false) Tryz.func89 (by kernel_rfl) (by kernel_rfl) (by kernel_rfl) (by kernel_rfl)
  rw [hx]
  show ((ReflectliteSwapper.swap false #[.int .i64 i, .int .i64 j, .slice (some ⟨blk, 0, none⟩) N cap, typeHandle Tryz.prog 40]).run Tryz.prog W).andThen _ = _
  rw [hs]; rfl
theorem LessT.later {P : Program} {g : Nat} {lb : Array Value} {w W : World} {blk C N : Nat} {el : Nat → List Value} {key : Nat → Int} {t : Nat → Nat} (h : LessT P g lb w blk C N el key) (hm : Mv w W blk C N el t) : LessT P g lb W blk C N el key := fun W' t' hm' i j hi hj => h W' t' (hm.trans hm') i j hi hj

set_option maxRecDepth 4000 in
set_option maxHeartbeats 1000000 in
theorem sliceStable_any (g : Nat) (lb : Array Value) (w : World) (blk C N cap : Nat) (el : Nat → List Value) (key : Nat → Int) (eg : ∀ args w, (callFunc g args).run Tryz.prog w = .ok (.enter g args) w) (hel : ∀ x, (el x).length = 5) (h1 : ∀ x, ∀ v ∈ el x, v.oneCell' = true)
    (hL : LessT Tryz.prog g lb w blk C N el key) (h : RowT w blk C N el (fun x => x)) (hN : N ≤ 1000) (h2 : 2 ≤ N) :
    Calls Tryz.prog 49 #[.iface 22 (.slice (some ⟨blk, 0, none⟩) N cap), .func (.func g) #[] lb] w fun e w' => e = .returned (.tuple #[]) ∧ ∃ u, Mv w w' blk C N el u ∧ Rea 0 N (fun x => x) u ∧ Srt key u 0 N := by
  have hv := Lib.run_valueOf_slice (P := Tryz.prog) 22 40 _ Tryz.ordersInfo Tryz.ordersDesc (some ⟨blk, 0, none⟩) N cap w
  have hs := fun w => Lib.run_swapper_slice (P := Tryz.prog) 22 40 _ _ Tryz.ordersInfo Tryz.ordersDesc Tryz.orderInfo 25 Tryz.orderKind (some ⟨blk, 0, none⟩) N cap 89 (by rw [swapperK_nine h2]; kernel_rfl) w
  have hl := fun a w ha => Lib.run_valueLen_slice (P := Tryz.prog) 22 40 _ Tryz.ordersInfo Tryz.ordersDesc Tryz.ordersPacked a (some ⟨blk, 0, none⟩) N cap w ha
  simp only [swapperK_nine h2, show ¬ (9 ≤ 2) by decide, if_false] at hs
  simp only [typeHandle] at hv hl
  have x1 := @run_callFunc_extern Tryz.prog 68 _ (fun args => ReflectliteValue.unpack (args.getD 0 (.tuple #[]))) Tryz.func68 (by kernel_rfl) (by kernel_rfl) (by kernel_rfl) (by kernel_rfl)
  have x2 : ∀ w, (callFunc 69 #[.iface 22 (.slice (some ⟨blk, 0, none⟩) N cap)]).run Tryz.prog w = .ok (.value (.func (.func 89) #[] #[.slice (some ⟨blk, 0, none⟩) N cap, typeHandle Tryz.prog 40])) w := fun w =>
    (run_callFunc_extern Tryz.func69 (by kernel_rfl) (by kernel_rfl) (by kernel_rfl) (by kernel_rfl) _ _).trans (congrArg (fun r => Result.andThen r fun v w' => Result.ok (Next.value v) w') (hs w))
  have x3 := @run_callFunc_extern Tryz.prog 71 _ (ReflectliteValue.method (ReflectliteValue.valueError "reflectlite.Value.Len" 0) ReflectliteValue.len) Tryz.func71 (by kernel_rfl) (by kernel_rfl) (by kernel_rfl) (by kernel_rfl)
  have hng : Tryz.prog.globals.size = 1 := by kernel_rfl
  have hl1 := hl ⟨w.heap.size, 0, none⟩ ((w.alloc (.cells #[.slice (some ⟨blk, 0, none⟩) N cap] 22)).alloc (.cells #[.pointer (some ⟨1, 22, none⟩), .pointer (some ⟨w.heap.size, 0, none⟩), .int .u64 151] 130)) ((World.cell?_alloc_lt _ _ ⟨w.heap.size, 0, none⟩ (by simp)).trans (World.cell?_alloc_at _ _ _ _ rfl))
  rw [hng] at hv hl1
  clear hl hng
  have HS : Hid (SwapT Tryz.prog 89 #[.slice (some ⟨blk, 0, none⟩) N cap, typeHandle Tryz.prog 40] blk C N el) := swapT_lit blk C N cap el hel h1
  have HL : Hid (LessT Tryz.prog g lb w blk C N el key) := hL
  have HR : Hid (RowT w blk C N el (fun x => x)) := h
  clear hL h h1 hs
  go_enter Tryz.func49, Tryz.ntmps49
  go_wp2_with fail
  have hbW := ((Below.refl w.heap.size w).alloc (Nat.le_refl _) (.cells #[.slice (some ⟨blk, 0, none⟩) N cap] 22)).alloc (by simp) (.cells #[.pointer (some ⟨1, 22, none⟩), .pointer (some ⟨w.heap.size, 0, none⟩), .int .u64 151] 130)
  have hmW := (Mv.start HR.out).below hbW (Nat.le_refl _)
  refine (stable_any g _ lb _ _ blk C N el key eg hel HS.out (HL.out.later hmW) hmW.row hN).mono ?_
  rintro e w5 ⟨rfl, u, h5, r5, s5⟩
  have H5 : Hid (Mv w w5 blk C N el u) := hmW.trans h5
  have R5 : Hid _ := r5
  have S5 : Hid _ := s5
  clear h5 r5 s5 hmW hbW hv hl1 x1 x2 x3
  go_wp2_with fail
  go_end0
  exact ⟨rfl, u, H5.out, R5.out, S5.out⟩
end Go.Proofs.YtcoijhofliilmabGreatDoor

/-
  What sort.SliceStable does to a slice of no order or one, over this translation: nothing. Conditions stand in each theorem.
-/
namespace Go.Proofs.YtcoijhofliilmabGreatDoor
open Go.RowKit Go.Extern

set_option maxHeartbeats 400000 in
theorem insSort_tiny (x y : Value) (n : Nat) (hn : n ≤ 1) (w : World) : Calls Tryz.prog 90 #[.agg #[x, y], .int .i64 0, .int .i64 n] w fun e w' => e = .returned (.tuple #[]) ∧ Below w.heap.size w w' := by
  go_enter Tryz.func90, Tryz.ntmps90
  go_wp2_with fail
  refine wp_loop_rounds 1 ?_
  rw [rounds_succ]
  go_wp2_with fail
  go_end0
  exact ⟨rfl, (Below.refl _ _).alloc (Nat.le_refl _) _⟩

set_option maxHeartbeats 400000 in
theorem stable_tiny (g sf : Nat) (lb sb : Array Value) (n : Nat) (hn : n ≤ 1) (w : World) : Calls Tryz.prog 70 #[.agg #[.func (.func g) #[] lb, .func (.func sf) #[] sb], .int .i64 n] w fun e w' => e = .returned (.tuple #[]) ∧ Below w.heap.size w w' := by
  go_enter Tryz.func70, Tryz.ntmps70
  go_wp2_with fail
  refine wp_loop_rounds 1 ?_
  rw [rounds_succ]
  go_wp2_with fail
  refine (insSort_tiny _ _ n hn _).mono ?_
  rintro e w1 ⟨rfl, hb1⟩
  have HB : Hid (Below w.heap.size w w1) := ((Below.refl _ _).alloc (Nat.le_refl _) _).trans (hb1.mono (by simp))
  clear hb1
  go_wp2_with fail
  refine wp_loop_rounds 1 ?_
  rw [rounds_succ]
  go_wp2_with fail
  go_end0
  exact ⟨rfl, HB.out⟩

theorem swapperK_tiny {n : Nat} (h : n ≤ 1) : Lib.swapperK n Tryz.t40 25 = n + 1 := by
  unfold Lib.swapperK
  by_cases h0 : n = 0
  · subst h0; rfl
  · obtain rfl : n = 1 := by omega
    rfl

set_option maxRecDepth 4000 in
set_option maxHeartbeats 1000000 in
theorem sliceStable_tiny (g : Nat) (lb : Array Value) (w : World) (p : Option Addr) (n cap : Nat) (hn : n ≤ 1) :
    Calls Tryz.prog 49 #[.iface 22 (.slice p n cap), .func (.func g) #[] lb] w fun e w' => e = .returned (.tuple #[]) ∧ Below w.heap.size w w' := by
  have hv := Lib.run_valueOf_slice (P := Tryz.prog) 22 40 _ Tryz.ordersInfo Tryz.ordersDesc p n cap w
  have hs := fun f hf w => Lib.run_swapper_slice (P := Tryz.prog) 22 40 _ _ Tryz.ordersInfo Tryz.ordersDesc Tryz.orderInfo 25 Tryz.orderKind p n cap f hf w
  have hl := fun a w ha => Lib.run_valueLen_slice (P := Tryz.prog) 22 40 _ Tryz.ordersInfo Tryz.ordersDesc Tryz.ordersPacked a p n cap w ha
  obtain ⟨f, hf⟩ : ∃ f : Nat, ∀ w, (callFunc 69 #[.iface 22 (.slice p n cap)]).run Tryz.prog w = .ok (.value (.func (.func f) #[] #[])) w := by
    simp only [swapperK_tiny hn, show n + 1 ≤ 2 by omega, if_true] at hs
    by_cases h0 : n = 0
    · subst h0
      exact ⟨81, fun w => (run_callFunc_extern Tryz.func69 (by kernel_rfl) (by kernel_rfl) (by kernel_rfl) (by kernel_rfl) _ _).trans (congrArg (fun r => Result.andThen r fun v w' => Result.ok (Next.value v) w') (hs _ (by kernel_rfl) w))⟩
    · obtain rfl : n = 1 := by omega
      exact ⟨82, fun w => (run_callFunc_extern Tryz.func69 (by kernel_rfl) (by kernel_rfl) (by kernel_rfl) (by kernel_rfl) _ _).trans (congrArg (fun r => Result.andThen r fun v w' => Result.ok (Next.value v) w') (hs _ (by kernel_rfl) w))⟩
  simp only [typeHandle] at hv hl
  have x1 := @run_callFunc_extern Tryz.prog 68 _ (fun args => ReflectliteValue.unpack (args.getD 0 (.tuple #[]))) Tryz.func68 (by kernel_rfl) (by kernel_rfl) (by kernel_rfl) (by kernel_rfl)
  have x3 := @run_callFunc_extern Tryz.prog 71 _ (ReflectliteValue.method (ReflectliteValue.valueError "reflectlite.Value.Len" 0) ReflectliteValue.len) Tryz.func71 (by kernel_rfl) (by kernel_rfl) (by kernel_rfl) (by kernel_rfl)
  have hng : Tryz.prog.globals.size = 1 := by kernel_rfl
  have hl1 := hl ⟨w.heap.size, 0, none⟩ ((w.alloc (.cells #[.slice p n cap] 22)).alloc (.cells #[.pointer (some ⟨1, 22, none⟩), .pointer (some ⟨w.heap.size, 0, none⟩), .int .u64 151] 130)) ((World.cell?_alloc_lt _ _ ⟨w.heap.size, 0, none⟩ (by simp)).trans (World.cell?_alloc_at _ _ _ _ rfl))
  rw [hng] at hv hl1
  clear hl hng hs
  go_enter Tryz.func49, Tryz.ntmps49
  go_wp2_with fail
  refine (stable_tiny g _ lb _ n hn _).mono ?_
  rintro e w5 ⟨rfl, hb5⟩
  have HB : Hid (Below w.heap.size w w5) := (((Below.refl w.heap.size w).alloc (Nat.le_refl _) _).alloc (by simp) _).trans (hb5.mono (by simp; omega))
  clear hb5 hv hl1 x1 x3 hf
  go_wp2_with fail
  go_end0
  exact ⟨rfl, HB.out⟩
end Go.Proofs.YtcoijhofliilmabGreatDoor

/-
  What a stable sort makes of a list, told once: each one goes behind all that are not greater; and that nothing else is sorted so. No program is named here.
-/
namespace Go.Proofs.YtcoijhofliilmabGreatDoor
open Go.RowKit

theorem surj_of_inj : ∀ (N : Nat) (s : Nat → Nat), (∀ x, x < N → s x < N) → (∀ x y, x < N → y < N → s x = s y → x = y) → ∀ y, y < N → ∃ x, x < N ∧ s x = y
  | 0, _, _, _, y, hy => by omega
  | N + 1, s, hs, hi, y, hy => by
    have ih := surj_of_inj N (fun x => if s x = N then s N else s x) (fun x hx => by
      show (if s x = N then s N else s x) < N
      have h1 := hs x (by omega)
      have h2 := hs N (by omega)
      split
      · rename_i e
        rcases Nat.lt_or_ge (s N) N with h | h
        · exact h
        · have := hi x N (by omega) (by omega) (by omega); omega
      · omega) (fun x z hx hz e => by
      have e' : (if s x = N then s N else s x) = (if s z = N then s N else s z) := e
      split at e' <;> split at e'
      · exact hi x z (by omega) (by omega) (by omega)
      · have := hi N z (by omega) (by omega) e'; omega
      · have := hi x N (by omega) (by omega) e'; omega
      · exact hi x z (by omega) (by omega) e')
    by_cases hyN : y = N
    · subst hyN
      by_cases hN : s y = y
      · exact ⟨y, by omega, hN⟩
      · obtain ⟨x, hx, e⟩ := ih (s y) (by have := hs y (by omega); omega)
        have e' : (if s x = y then s y else s x) = s y := e
        split at e'
        · rename_i e1; exact ⟨x, by omega, e1⟩
        · have := hi x y (by omega) (by omega) e'; omega
    · obtain ⟨x, hx, e⟩ := ih y (by omega)
      have e' : (if s x = N then s N else s x) = y := e
      split at e'
      · exact ⟨N, by omega, e'⟩
      · exact ⟨x, by omega, e'⟩

/-- a goes behind all that are not greater -/
def insK (key : Nat → Int) (a : Nat) : List Nat → List Nat
  | [] => [a]
  | x :: xs => if key x ≤ key a then x :: insK key a xs else a :: x :: xs
def stags (key : Nat → Int) : Nat → List Nat
  | 0 => []
  | n + 1 => insK key n (stags key n)
theorem insK_perm (key : Nat → Int) (a : Nat) : ∀ T, (insK key a T).Perm (a :: T)
  | [] => List.Perm.refl _
  | x :: xs => by
    unfold insK
    split
    · exact ((insK_perm key a xs).cons x).trans (List.Perm.swap a x xs)
    · exact List.Perm.refl _
theorem insK_mem {key : Nat → Int} {a y : Nat} {T : List Nat} : y ∈ insK key a T ↔ y = a ∨ y ∈ T := by
  rw [(insK_perm key a T).mem_iff]; simp
theorem insK_srt {key : Nat → Int} {a : Nat} : ∀ {T : List Nat}, T.Pairwise (Rk key) → (∀ x ∈ T, x < a) → (insK key a T).Pairwise (Rk key)
  | [], _, _ => by simp [insK]
  | x :: xs, hp, hl => by
    obtain ⟨h1, h2⟩ := List.pairwise_cons.1 hp
    unfold insK
    split
    · rename_i hk
      refine List.pairwise_cons.2 ⟨fun y hy => ?_, insK_srt h2 (fun z hz => hl z (by simp [hz]))⟩
      rcases insK_mem.1 hy with rfl | hy
      · have := hl x (by simp); unfold Rk; omega
      · exact h1 y hy
    · rename_i hk
      refine List.pairwise_cons.2 ⟨fun y hy => ?_, hp⟩
      rcases List.mem_cons.1 hy with rfl | hy
      · exact Or.inl (by omega)
      · have := (h1 y hy).le; exact Or.inl (by omega)
theorem stags_perm (key : Nat → Int) : ∀ n, (stags key n).Perm (List.range n)
  | 0 => List.Perm.refl _
  | n + 1 => by
    rw [List.range_succ]
    exact ((insK_perm key n _).trans ((stags_perm key n).cons n)).trans (List.perm_append_singleton n _).symm
theorem stags_srt (key : Nat → Int) : ∀ n, (stags key n).Pairwise (Rk key)
  | 0 => List.Pairwise.nil
  | n + 1 => insK_srt (stags_srt key n) (fun x hx => by have := (stags_perm key n).mem_iff.1 hx; simpa using this)

/-- nothing else is sorted so -/
theorem stags_only {key : Nat → Int} {u : Nat → Nat} {N : Nat} (hr : Rea 0 N (fun x => x) u) (hs : Srt key u 0 N) : (List.range N).map u = stags key N := by
  obtain ⟨s, h1, h2, h3, h4⟩ := hr
  have hu : ∀ x, u x = s x := fun x => h4 x
  have lt : ∀ x, x < N → u x < N := fun x hx => by rw [hu]; exact (h2 x (Nat.zero_le _) hx).2
  have nd : ((List.range N).map u).Nodup := by
    rw [List.Nodup, List.pairwise_map]
    refine (List.nodup_range (n := N)).imp (fun {x y} hne e => hne ?_)
    rw [hu, hu] at e; exact h3 x y e
  have pm : ((List.range N).map u).Perm (List.range N) := by
    rw [List.perm_ext_iff_of_nodup nd List.nodup_range]
    intro y
    rw [List.mem_map, List.mem_range]
    constructor
    · rintro ⟨x, hx, rfl⟩; exact lt x (by simpa using hx)
    · intro hy
      obtain ⟨x, hx, e⟩ := surj_of_inj N u lt (fun x z _ _ e => by rw [hu, hu] at e; exact h3 x z e) y hy
      exact ⟨x, by simpa using hx, e⟩
  have sp : ((List.range N).map u).Pairwise (Rk key) := by
    rw [List.pairwise_map]
    refine List.pairwise_iff_getElem.2 (fun i j hi hj hij => ?_)
    simp only [List.length_range] at hi hj
    simp only [List.getElem_range]
    exact hs i j (Nat.zero_le _) hij hj
  exact (pm.trans (stags_perm key N).symm).eq_of_pairwise (fun a b _ _ h h' => by unfold Rk at h h'; omega) sp (stags_srt key N)

theorem insL_map {α : Type} {rank : α → Int} {key : Nat → Int} {f : Nat → α} {a : Nat} : ∀ {T : List Nat}, (∀ x ∈ T, key x = rank (f x)) → key a = rank (f a) → (insK key a T).map f = insL rank (f a) (T.map f)
  | [], _, _ => rfl
  | x :: xs, h, ha => by
    have hx := h x (by simp)
    unfold insK insL
    simp only [List.map_cons]
    rw [hx, ha]
    split
    · rw [List.map_cons, insL_map (fun z hz => h z (by simp [hz])) ha]
    · rfl
theorem stags_map {α : Type} {rank : α → Int} {key : Nat → Int} {f : Nat → α} : ∀ (n : Nat), (∀ x, x < n → key x = rank (f x)) → (stags key n).map f = ssort rank ((List.range n).map f)
  | 0, _ => rfl
  | n + 1, h => by
    rw [List.range_succ, List.map_append, List.map_singleton, ssort_push, ← stags_map n (fun x hx => h x (by omega))]
    show (insK key n (stags key n)).map f = _
    exact insL_map (fun x hx => h x (by have := (stags_perm key n).mem_iff.1 hx; simp at this; omega)) (h n (by omega))
end Go.Proofs.YtcoijhofliilmabGreatDoor

/-
  What the two closures of the document's Side return, over this translation: what is compared, and whether one is less. Conditions stand in each theorem: what they have captured, how great prices are.
-/
namespace Go.Proofs.YtcoijhofliilmabGreatDoor
open Go.RowKit

theorem cell_keep {W W' : World} {p : Addr} {v : Value} (h : W.cell? p = some v) (hb : Below W.heap.size W W') : W'.cell? p = some v := (hb.cell (World.block_lt_of_cell? W p h)).trans h

set_option maxHeartbeats 400000 in
theorem bk_rank (id sd kd pr qt side : Int) (b : Nat) (w : World) (h : w.cell? ⟨b, 0, none⟩ = some (.int .i64 side)) (hp : -1000000000 ≤ pr ∧ pr ≤ 1000000000) :
    Calls Tryz.prog 48 #[.agg #[.int .i64 id, .int .i64 sd, .int .i64 kd, .int .i64 pr, .int .i64 qt], .pointer (some ⟨b, 0, none⟩)] w fun e w' => e = .returned (.int .i64 (rankI side kd pr)) ∧ Below w.heap.size w w' := by
  have hb : b < w.heap.size := World.block_lt_of_cell? w _ h
  by_cases hk : kd = 2
  · subst hk
    go_enter Tryz.func48, Tryz.ntmps48
    go_wp2_with fail
    go_ret
    exact ⟨rfl, (Below.refl _ _).alloc (Nat.le_refl _) _⟩
  · have hkb : (kd == 2) = false := beq_eq_false_iff_ne.2 hk
    have HK : Hid (¬ kd = 2) := hk
    clear hk
    by_cases hs : side = 1
    · subst hs
      go_enter Tryz.func48, Tryz.ntmps48
      go_wp2_with fail
      go_ret
      exact ⟨by unfold rankI; rw [if_neg HK.out, if_pos rfl]; rfl, (Below.refl _ _).alloc (Nat.le_refl _) _⟩
    · have hsb : (side == 1) = false := beq_eq_false_iff_ne.2 hs
      have HSd : Hid (¬ side = 1) := hs
      clear hs
      go_enter Tryz.func48, Tryz.ntmps48
      go_wp2_with fail
      go_ret
      exact ⟨by unfold rankI; rw [if_neg HK.out, if_neg HSd.out]; rfl, (Below.refl _ _).alloc (Nat.le_refl _) _⟩

set_option maxRecDepth 100000 in
set_option maxHeartbeats 4000000 in
theorem less_any (W : World) (rb ob sb g N cap i j : Nat) (side : Int) (x y : Ord) (hi : i < N) (hj : j < N) (hr : W.cell? ⟨rb, 0, none⟩ = some (.func (.func 48) #[] #[.pointer (some ⟨sb, 0, none⟩)])) (ho : W.cell? ⟨ob, 0, none⟩ = some (.slice (some ⟨g, 0, none⟩) N cap)) (hs : W.cell? ⟨sb, 0, none⟩ = some (.int .i64 side))
    (x0 : W.cell? ⟨g, i * 5, none⟩ = some (.int .i64 x.id)) (x1 : W.cell? ⟨g, i * 5 + 1, none⟩ = some (.int .i64 x.side)) (x2 : W.cell? ⟨g, i * 5 + 2, none⟩ = some (.int .i64 x.kind)) (x3 : W.cell? ⟨g, i * 5 + 3, none⟩ = some (.int .i64 x.price)) (x4 : W.cell? ⟨g, i * 5 + 4, none⟩ = some (.int .i64 x.qty))
    (y0 : W.cell? ⟨g, j * 5, none⟩ = some (.int .i64 y.id)) (y1 : W.cell? ⟨g, j * 5 + 1, none⟩ = some (.int .i64 y.side)) (y2 : W.cell? ⟨g, j * 5 + 2, none⟩ = some (.int .i64 y.kind)) (y3 : W.cell? ⟨g, j * 5 + 3, none⟩ = some (.int .i64 y.price)) (y4 : W.cell? ⟨g, j * 5 + 4, none⟩ = some (.int .i64 y.qty))
    (hx : -1000000000 ≤ x.price ∧ x.price ≤ 1000000000) (hy : -1000000000 ≤ y.price ∧ y.price ≤ 1000000000) :
    Calls Tryz.prog 50 (#[.int .i64 i, .int .i64 j] ++ #[.pointer (some ⟨rb, 0, none⟩), .pointer (some ⟨ob, 0, none⟩)]) W fun e W' => e = .returned (.bool (decide (rankI side x.kind x.price < rankI side y.kind y.price))) ∧ Below W.heap.size W W' := by
  have q0 : (0 : Int) ≤ (i : Int) := by omega
  have q1 : (i : Int) < N := by omega
  have q2 : (0 : Int) ≤ (j : Int) := by omega
  have q3 : (j : Int) < N := by omega
  have HB0 : Below W.heap.size W W := Below.refl _ _
  show Calls Tryz.prog 50 #[.int .i64 i, .int .i64 j, .pointer (some ⟨rb, 0, none⟩), .pointer (some ⟨ob, 0, none⟩)] W _
  go_enter Tryz.func50, Tryz.ntmps50
  go_wp2_with fail
  go_region_held3 (fun w' => w'.cell? ⟨rb, 0, none⟩ = some (.func (.func 48) #[] #[.pointer (some ⟨sb, 0, none⟩)]) ∧ w'.cell? ⟨ob, 0, none⟩ = some (.slice (some ⟨g, 0, none⟩) N cap) ∧ w'.cell? ⟨sb, 0, none⟩ = some (.int .i64 side) ∧ w'.cell? ⟨g, i * 5, none⟩ = some (.int .i64 x.id) ∧ w'.cell? ⟨g, i * 5 + 1, none⟩ = some (.int .i64 x.side) ∧ w'.cell? ⟨g, i * 5 + 2, none⟩ = some (.int .i64 x.kind) ∧ w'.cell? ⟨g, i * 5 + 3, none⟩ = some (.int .i64 x.price) ∧ w'.cell? ⟨g, i * 5 + 4, none⟩ = some (.int .i64 x.qty) ∧ w'.cell? ⟨g, j * 5, none⟩ = some (.int .i64 y.id) ∧ w'.cell? ⟨g, j * 5 + 1, none⟩ = some (.int .i64 y.side) ∧ w'.cell? ⟨g, j * 5 + 2, none⟩ = some (.int .i64 y.kind) ∧ w'.cell? ⟨g, j * 5 + 3, none⟩ = some (.int .i64 y.price) ∧ w'.cell? ⟨g, j * 5 + 4, none⟩ = some (.int .i64 y.qty))
    (first | go_keep | (go_split_ands; refine ⟨?_, ?_, ?_, ?_, ?_, ?_, ?_, ?_, ?_, ?_, ?_, ?_, ?_⟩ <;> (refine cell_keep ?_ hbk; assumption)))
    (first | (go_at_call 48; refine (bk_rank _ _ _ _ _ side sb _ (by go_split_ands; assumption) (by assumption)).mono ?_; rintro e w5 ⟨rfl, hbk⟩; first | (have hbz : Below W.heap.size W w5 := HB0.drew.trans hbk) | (have hbz2 : Below W.heap.size W w5 := hbz.trans (hbk.mono hbz.size))))
  go_wp2
  go_ret
  exact ⟨rfl, hbz2⟩

/-- the closure pays what is asked of 'less' -/
theorem lessT_side (w0 : World) (rb ob sb g C N cap : Nat) (side : Int) (F : List Ord) (hp : ∀ k, -1000000000 ≤ (oAt F k).price ∧ (oAt F k).price ≤ 1000000000) (hr : w0.cell? ⟨rb, 0, none⟩ = some (.func (.func 48) #[] #[.pointer (some ⟨sb, 0, none⟩)])) (ho : w0.cell? ⟨ob, 0, none⟩ = some (.slice (some ⟨g, 0, none⟩) N cap)) (hs : w0.cell? ⟨sb, 0, none⟩ = some (.int .i64 side)) (h1 : rb ≠ g) (h2 : ob ≠ g) (h3 : sb ≠ g) :
    LessT Tryz.prog 50 #[.pointer (some ⟨rb, 0, none⟩), .pointer (some ⟨ob, 0, none⟩)] w0 g C N (fun x => (oAt F x).vals) (fun x => rankI side (oAt F x).kind (oAt F x).price) := by
  intro W t hm i j hi hj
  have keep : ∀ {b : Nat} {v : Value}, b ≠ g → w0.cell? ⟨b, 0, none⟩ = some v → W.cell? ⟨b, 0, none⟩ = some v := fun {b v} hb hv => (World.cell?_of_block (w := w0) (a := ⟨b, 0, none⟩) (hm.block b (World.block_lt_of_cell? w0 _ hv) hb)).trans hv
  exact less_any W rb ob sb g N cap i j side (oAt F (t i)) (oAt F (t j)) hi hj (keep h1 hr) (keep h2 ho) (keep h3 hs)
    (hm.row.cell hi (j := 0) (by decide)).1 (hm.row.cell hi (j := 1) (by decide)).1 (hm.row.cell hi (j := 2) (by decide)).1 (hm.row.cell hi (j := 3) (by decide)).1 (hm.row.cell hi (j := 4) (by decide)).1
    (hm.row.cell hj (j := 0) (by decide)).1 (hm.row.cell hj (j := 1) (by decide)).1 (hm.row.cell hj (j := 2) (by decide)).1 (hm.row.cell hj (j := 3) (by decide)).1 (hm.row.cell hj (j := 4) (by decide)).1
    (hp _) (hp _)
end Go.Proofs.YtcoijhofliilmabGreatDoor

/-
  What the document's Side (4.2) returns, over this translation: its orders, sorted stably. Conditions stand in the theorem: where the Book lies, that there are at most 1000 orders, how great prices are.
-/
namespace Go.Proofs.YtcoijhofliilmabGreatDoor
open Go.RowKit

theorem onSide_take {side : Int} {l : List Ord} {k : Nat} (h : k < l.length) : onSide side (l.take (k + 1)) = onSide side (l.take k) ++ (if (oAt l k).side == side then [oAt l k] else []) := by
  unfold onSide
  rw [List.take_succ_eq_append_getElem h, List.filter_append, ← oAt_eq h]
  by_cases e : ((oAt l k).side == side) = true
  · rw [if_pos e]; simp [e]
  · rw [if_neg e]; simp [e]
theorem onSide_len (side : Int) (l : List Ord) (k : Nat) : (onSide side (l.take k)).length ≤ l.length := by
  unfold onSide
  have h1 := List.length_filter_le (fun o : Ord => o.side == side) (l.take k)
  have h2 := List.length_take_le' k l
  omega
theorem onSide_price {side : Int} {l : List Ord} (hp : ∀ o ∈ l, -1000000000 ≤ o.price ∧ o.price ≤ 1000000000) (k : Nat) : -1000000000 ≤ (oAt (onSide side l) k).price ∧ (oAt (onSide side l) k).price ≤ 1000000000 := by
  by_cases h : k < (onSide side l).length
  · rw [oAt_eq h]; exact hp _ (onSide_mem (List.getElem_mem h))
  · have : oAt (onSide side l) k = Ord.none_ := by simp [oAt, h]
    rw [this]; decide

/-- the row behind the sort -/
theorem row_of_owns {w : World} {base g N cap : Nat} {F : List Ord} (h : w.ownsRow base 40 5 (.slice (some ⟨g, 0, none⟩) N cap) N (oV F)) (hF : F.length = N) : RowT w g (cap * 5) N (fun x => (oAt F x).vals) (fun x => x) := by
  rcases h.2 with ⟨h', _⟩ | ⟨g', cap', cur, h', _, hg, hnc, _, hcs, ht⟩
  · simp at h'
  · simp only [Value.slice.injEq, Option.some.injEq, Addr.mk.injEq, and_true, true_and] at h'
    obtain ⟨rfl, rfl⟩ := h'
    refine ⟨cur, hg, hcs, Nat.mul_le_mul_right 5 hnc, fun x hx j hj => ?_⟩
    have e : cur[x * 5 + j]? = (oV F)[x * 5 + j]? := by
      rw [← ht, List.getElem?_take, if_pos (by omega)]; simp
    rw [e]
    obtain ⟨a0, a1, a2, a3, a4⟩ := oV_at (l := F) (k := x) (by omega)
    match j, hj with
    | 0, _ => exact a0
    | 1, _ => exact a1
    | 2, _ => exact a2
    | 3, _ => exact a3
    | 4, _ => exact a4
theorem oV_getElem (l : List Ord) (x j : Nat) (hx : x < l.length) (hj : j < 5) : (oV l)[x * 5 + j]? = (oAt l x).vals[j]? := by
  obtain ⟨a0, a1, a2, a3, a4⟩ := oV_at hx
  match j, hj with
  | 0, _ => exact a0
  | 1, _ => exact a1
  | 2, _ => exact a2
  | 3, _ => exact a3
  | 4, _ => exact a4
theorem owns_of_row {w : World} {base g N cap : Nat} {F : List Ord} {u : Nat → Nat} (h : RowT w g (cap * 5) N (fun x => (oAt F x).vals) u) (hb : base ≤ g) (hc : N ≤ cap) (hm : cap ≤ maxLen) : w.ownsRow base 40 5 (.slice (some ⟨g, 0, none⟩) N cap) N (oV ((List.range N).map fun x => oAt F (u x))) := by
  obtain ⟨cur, hg, hcs, _, hx⟩ := h
  have hlen : ((List.range N).map fun x => oAt F (u x)).length = N := by simp
  refine ⟨by rw [oV_length, hlen], .inr ⟨g, cap, cur, rfl, hb, hg, hc, hm, hcs, ?_⟩⟩
  apply List.ext_getElem?
  intro k
  rw [List.getElem?_take]
  by_cases hk : k < N * 5
  · rw [if_pos hk]
    have e : k = k / 5 * 5 + k % 5 := by omega
    have h1 : k / 5 < N := by omega
    have h2 := hx (k / 5) h1 (k % 5) (by omega)
    have h3 := oV_getElem ((List.range N).map fun x => oAt F (u x)) (k / 5) (k % 5) (by rw [hlen]; exact h1) (by omega)
    rw [← e] at h2 h3
    rw [h3]
    have h4 : oAt ((List.range N).map fun x => oAt F (u x)) (k / 5) = oAt F (u (k / 5)) := by simp [oAt, h1]
    rw [h4, ← h2]; simp
  · rw [if_neg hk]
    symm
    rw [List.getElem?_eq_none_iff, oV_length, hlen]; omega
theorem sorted_is {side : Int} {F : List Ord} {N : Nat} {u : Nat → Nat} (hF : F.length = N) (hr : Rea 0 N (fun x => x) u) (hs : Srt (fun x => rankI side (oAt F x).kind (oAt F x).price) u 0 N) : ((List.range N).map fun x => oAt F (u x)) = ssort (rankO side) F := by
  have h1 := stags_only hr hs
  have h2 : ((List.range N).map fun x => oAt F (u x)) = ((List.range N).map u).map (oAt F) := by rw [List.map_map]; rfl
  rw [h2, h1, stags_map (rank := rankO side) (key := fun x => rankI side (oAt F x).kind (oAt F x).price) (f := oAt F) N (fun x _ => rfl)]
  congr 1
  apply List.ext_getElem?
  intro k
  by_cases hk : k < N
  · simp [hk, oAt, hF]
  · simp [hk, hF]

theorem Tryz.infoOrd : (Tryz.prog.info? 40).map (fun i => (i.zero, i.size, i.bytes)) = some (some (.agg #[.int .i64 0, .int .i64 0, .int .i64 0, .int .i64 0, .int .i64 0]), 5, 40) := by kernel_rfl
theorem bk_ne {w : World} {base b : Nat} {e t : TypeId} {size : Nat} {v : Value} {n : Nat} {xs : List Value} {vs : Array Value} {f : Nat × Nat} (h : w.ownsRow base e size v n xs) (hb : w.heap[b]? = some (.cells vs t f)) (ht : t ≠ e) : v.ownBlock ≠ some b := fun hv => by
  rcases h.2 with ⟨rfl, _⟩ | ⟨g, cap, cur, rfl, _, hh, _⟩
  · cases hv
  · simp [Value.ownBlock] at hv
    subst hv
    rw [hb] at hh
    injection hh with hh
    injection hh with _ hh _
    exact ht hh

theorem bk_two (w : World) (o o' : Obj) : ((w.alloc o).alloc o').heap[w.heap.size + 1]? = some o' := by
  have := heap_alloc_new (w.alloc o) o'
  rwa [show (w.alloc o).heap.size = w.heap.size + 1 by simp] at this

set_option maxRecDepth 4000 in
set_option maxHeartbeats 4000000 in
theorem bkSide (base bb : Nat) (v : Value) (l : List Ord) (side : Int) (w : World) (h : BookIs w base bb v l) (hl : l.length ≤ 1000) (hp : ∀ o ∈ l, -1000000000 ≤ o.price ∧ o.price ≤ 1000000000) :
    Calls Tryz.prog 22 #[.pointer (some ⟨bb, 0, none⟩), .int .i64 side] w fun e w' => ∃ v', e = .returned v' ∧ w'.ownsRow w.heap.size 40 5 v' (sideO side l).length (oV (sideO side l)) ∧ Below w.heap.size w w' := by
  obtain ⟨i0, hi, hz0, hz1, hz2⟩ := info_parts Tryz.infoOrd
  have c0 : w.cell? ⟨bb, 0, none⟩ = some v := cell_of_one h.box
  have lb : bb < w.heap.size := lt_of_block h.box
  have HA : Hid (BookIs w base bb v l) := h
  have HP : Hid (∀ o ∈ l, -1000000000 ≤ o.price ∧ o.price ≤ 1000000000) := hp
  obtain ⟨ao, cap, rfl, _, _⟩ := bk_shape h.all
  have HB0 : Hid (Below w.heap.size w ((w.alloc (.cells #[.int .i64 side] 3)).alloc (.cells #[.slice none 0 0] 22))) := ((Below.refl w.heap.size w).alloc (Nat.le_refl _) _).alloc (by simp) _
  have HS0 : Hid (((w.alloc (.cells #[.int .i64 side] 3)).alloc (.cells #[.slice none 0 0] 22)).heap[w.heap.size]? = some (.cells #[.int .i64 side] 3 (0, 0))) := (Below.heap_alloc _ _ _ (by simp)).trans (heap_alloc_new w _)
  have ho0 : ((w.alloc (.cells #[.int .i64 side] 3)).alloc (.cells #[.slice none 0 0] 22)).heap[w.heap.size + 1]? = some (.cells #[.slice none 0 0] 22 (0, 0)) := by
    have := heap_alloc_new (w.alloc (.cells #[.int .i64 side] 3)) (.cells #[.slice none 0 0] 22)
    rwa [show (w.alloc (.cells #[.int .i64 side] 3)).heap.size = w.heap.size + 1 by simp] at this
  have HO0 : Hid (((w.alloc (.cells #[.int .i64 side] 3)).alloc (.cells #[.slice none 0 0] 22)).heap[w.heap.size + 1]? = some (.cells #[.slice none 0 0] 22 (0, 0))) := ho0
  clear ho0
  clear h hp
  go_enter Tryz.func22, Tryz.ntmps22
  go_wp2_with fail
  go_loopw [14] (fun vi wr => ∃ (k : Nat) (vo : Value), k ≤ l.length ∧ vi = .int .i64 k ∧ Below w.heap.size w wr ∧ wr.heap[w.heap.size]? = some (.cells #[.int .i64 side] 3 (0, 0)) ∧ wr.heap[w.heap.size + 1]? = some (.cells #[vo] 22 (0, 0)) ∧ wr.ownsRow w.heap.size 40 5 vo (onSide side (l.take k)).length (oV (onSide side (l.take k)))) (fun vi _ => l.length - (intOf vi).toNat)
  case atStart => exact ⟨0, _, Nat.zero_le _, rfl, HB0.out, HS0.out, HO0.out, World.ownsRow_nil _ _ _ _⟩
  case round =>
    obtain ⟨k, vo, hk, rfl, hb, hs, ho, hown⟩ := hrel
    have HB : Hid (Below w.heap.size w wr) := hb
    have HS : Hid _ := hs
    have HO : Hid _ := ho
    have HW : Hid (wr.ownsRow w.heap.size 40 5 vo (onSide side (l.take k)).length (oV (onSide side (l.take k)))) := hown
    have s0 : wr.cell? ⟨w.heap.size, 0, none⟩ = some (.int .i64 side) := cell_of_one hs
    have o0 : wr.cell? ⟨w.heap.size + 1, 0, none⟩ = some vo := cell_of_one ho
    have lo : w.heap.size + 1 < wr.heap.size := lt_of_block ho
    have ls : w.heap.size < wr.heap.size := lt_of_block hs
    have hlen := onSide_len side l k
    obtain ⟨vao, vcap, rfl, _, _⟩ := bk_shape hown
    clear hb hs ho hown HB0 HS0 HO0
    by_cases hk1 : k < l.length
    · obtain ⟨g, cap', hv, d0, d1, d2, d3, d4⟩ := row_order (HA.out.below HB.out (Nat.le_refl _)).all hk1
      simp only [Value.slice.injEq, true_and] at hv
      obtain ⟨rfl, rfl⟩ := hv
      by_cases hx : (oAt l k).side = side
      · have HT : Hid (onSide side (l.take (k + 1)) = onSide side (l.take k) ++ [oAt l k]) := by
          have := onSide_take (side := side) hk1
          rw [if_pos (by simpa using hx)] at this; exact this
        have hxb : ((oAt l k).side == side) = true := by simpa using hx
        clear hx
        have A1 : (Value.slice vao (onSide side (l.take k)).length vcap).ownBlock ≠ some (w.heap.size + 1) := bk_ne HW.out HO.out (by decide)
        have A2 : (Value.slice vao (onSide side (l.take k)).length vcap).ownBlock ≠ some w.heap.size := bk_ne HW.out HS.out (by decide)
        go_wp2_with (at_builtin; go_loud (refine wpList_append_lies _ rfl _ _ 22 rfl w.heap.size 40 i0 (.agg #[.int .i64 0, .int .i64 0, .int .i64 0, .int .i64 0, .int .i64 0]) 5 40 Tryz.underlying22 hi hz0 hz1 hz2 rfl (by decide) (.slice vao (onSide side (l.take k)).length vcap) (onSide side (l.take k)).length (oV (onSide side (l.take k))) rfl ((HW.out.alloc _).alloc _) ⟨wr.heap.size + 1, 0, none⟩ 1 1 [.int .i64 (oAt l k).id, .int .i64 (oAt l k).side, .int .i64 (oAt l k).kind, .int .i64 (oAt l k).price, .int .i64 (oAt l k).qty] rfl rfl (World.news_of_block (cs := #[.int .i64 (oAt l k).id, .int .i64 (oAt l k).side, .int .i64 (oAt l k).kind, .int .i64 (oAt l k).price, .int .i64 (oAt l k).qty]) (t := 40) (fr := (0, 0)) (bk_two wr _ _)) (by simp [Value.oneCell']) (by decide) (by unfold maxLen; omega) (by omega) (Nat.le_trans HB.out.size (by simp; omega)) (wr.heap.size + 2) (by simp) ?_); intro g2 cg w1 hown hgrow hat hlt; have hO1 := (hgrow.block (w.heap.size + 1) (by simp; omega) (Ne.symm A1)).trans ((Below.heap_alloc _ _ _ (by simp; omega)).trans ((Below.heap_alloc _ _ _ lo).trans HO.out)); have z1 := cell_of_one hO1; have z2 := free_of_one hO1)
        go_roundw
        case rel =>
          have hS1 := (hgrow.block w.heap.size (by simp; omega) (Ne.symm A2)).trans ((Below.heap_alloc _ _ _ (by simp; omega)).trans ((Below.heap_alloc _ _ _ ls).trans HS.out))
          have hB1 : Below w.heap.size w w1 := ((HB.out.alloc HB.out.size _).alloc (by simp; omega) _).grown hgrow (by simp; omega) (fun q hq => (HW.out.lt q hq).1)
          refine ⟨k + 1, _, hk1, by go_num, hB1.setCell (by simp) _, (Below.heap_setCell _ _ _ _ (by simp)).trans hS1, one_setCell hO1, ?_⟩
          rw [HT.out, List.length_append, List.length_singleton, oV_append]
          exact ownsRow_setCell_other hown (bk_ne hown hO1 (by decide)) _
        case measure => simp [intOf]; omega
      · have HT : Hid (onSide side (l.take (k + 1)) = onSide side (l.take k)) := by
          have := onSide_take (side := side) hk1
          rw [if_neg (by simpa using hx), List.append_nil] at this; exact this
        have hxb : ((oAt l k).side == side) = false := beq_eq_false_iff_ne.2 hx
        clear hx
        go_wp2_with fail
        go_roundw
        case rel => exact ⟨k + 1, _, hk1, by go_num, HB.out.alloc HB.out.size _, (Below.heap_alloc _ _ _ (lt_of_block HS.out)).trans HS.out, (Below.heap_alloc _ _ _ (lt_of_block HO.out)).trans HO.out, by rw [HT.out]; exact HW.out.alloc _⟩
        case measure => simp [intOf]; omega
    · obtain rfl : k = l.length := by omega
      rw [List.take_length] at HW o0 HO hlen
      have hst : (store ⟨wr.heap.size, 0, none⟩ (.func (.func 48) #[] #[.pointer (some ⟨w.heap.size, 0, none⟩)])).run Tryz.prog (wr.alloc (.cells #[.nilFunc] 104)) = .ok () ((wr.alloc (.cells #[.nilFunc] 104)).setCell ⟨wr.heap.size, 0, none⟩ (.func (.func 48) #[] #[.pointer (some ⟨w.heap.size, 0, none⟩)])) := by
        rw [run_store Tryz.prog _ _ _ _ (by rfl)]; simp
      go_wp2_with fail
      clear hst
      obtain ⟨W, hW⟩ : ∃ W, W = wr.alloc (.cells #[.func (.func 48) #[] #[.pointer (some ⟨w.heap.size, 0, none⟩)]] 104) := ⟨_, rfl⟩
      have bW : Below wr.heap.size wr W := by rw [hW]; exact (Below.refl _ _).alloc (Nat.le_refl _) _
      have rW : W.cell? ⟨wr.heap.size, 0, none⟩ = some (.func (.func 48) #[] #[.pointer (some ⟨w.heap.size, 0, none⟩)]) := by rw [hW]; exact World.cell?_alloc_at _ _ _ _ rfl
      have sW := cell_keep s0 bW
      have oW := cell_keep o0 bW
      have wW := bk_below HW.out bW (Nat.le_refl _)
      have HBW : Hid (Below w.heap.size w W) := HB.out.trans (bW.mono HB.out.size)
      rw [← hW]
      have HOB : Hid (W.heap[w.heap.size + 1]? = some (.cells #[.slice vao (onSide side l).length vcap] 22 (0, 0))) := (bW.block _ (lt_of_block HO.out)).trans HO.out
      have HSB : Hid (W.heap[w.heap.size]? = some (.cells #[.int .i64 side] 3 (0, 0))) := (bW.block _ (lt_of_block HS.out)).trans HS.out
      have hgl : ∀ g, (Value.slice vao (onSide side l).length vcap).ownBlock = some g → g < wr.heap.size ∧ w.heap.size ≤ g := fun g hg => ⟨(HW.out.lt g hg).2, (HW.out.lt g hg).1⟩
      clear hW bW s0 o0 HB HS HO
      by_cases h2 : 2 ≤ (onSide side l).length
      · obtain ⟨g, cg, hv, hbase, hglt⟩ := wW.form (by omega)
        simp only [Value.slice.injEq, true_and] at hv
        obtain ⟨rfl, rfl⟩ := hv
        have hg := hgl g rfl
        have hL := lessT_side W wr.heap.size (w.heap.size + 1) w.heap.size g (vcap * 5) (onSide side l).length vcap side (onSide side l) (onSide_price HP.out) rW oW sW (by omega) (fun e => bk_ne wW HOB.out (by decide) (by rw [e]; rfl)) (fun e => bk_ne wW HSB.out (by decide) (by rw [e]; rfl))
        refine (sliceStable_any 50 _ W g (vcap * 5) (onSide side l).length vcap (fun x => (oAt (onSide side l) x).vals) _ (fun args w => by rfl) (fun x => rfl) (fun x v hv => ?_) hL (row_of_owns wW rfl) (by omega) h2).mono ?_
        · simp only [Ord.vals, List.mem_cons, List.mem_nil_iff, or_false] at hv
          rcases hv with rfl | rfl | rfl | rfl | rfl <;> rfl
        rintro e w5 ⟨rfl, u, hm, hr5, hs5⟩
        have o5 : w5.cell? ⟨w.heap.size + 1, 0, none⟩ = some (.slice (some ⟨g, 0, none⟩) (onSide side l).length vcap) := (World.cell?_of_block (w := W) (a := ⟨w.heap.size + 1, 0, none⟩) (hm.block _ (lt_of_block HOB.out) (fun e => bk_ne wW HOB.out (by decide) (congrArg some e.symm)))).trans oW
        have es := sorted_is (side := side) (F := onSide side l) rfl hr5 hs5
        have hcap : (onSide side l).length ≤ vcap ∧ vcap ≤ maxLen := by
          obtain ⟨_, _, e, h3, h4⟩ := bk_shape wW
          simp at e
          omega
        have HFIN : Hid (w5.ownsRow w.heap.size 40 5 (.slice (some ⟨g, 0, none⟩) (onSide side l).length vcap) (sideO side l).length (oV (sideO side l)) ∧ Below w.heap.size w w5) := by
          have h5 := owns_of_row (base := w.heap.size) (F := onSide side l) hm.row hg.2 hcap.1 hcap.2
          rw [es] at h5
          have hlen' : (sideO side l).length = (onSide side l).length := by
            show (ssort (rankO side) (onSide side l)).length = _
            rw [← es]; simp
          refine ⟨by rw [hlen']; exact h5, ?_⟩
          exact HBW.out.trans ⟨hm.os, hm.tape, hm.output, hm.size, fun k hk => hm.block k (by have := HBW.out.size; omega) (by omega)⟩
        clear hm hr5 hs5 es hcap hL wW rW oW sW hgl hg
        go_wp2_with fail
        go_ret
        exact ⟨_, rfl, HFIN.out⟩
      · refine (sliceStable_tiny 50 _ W vao (onSide side l).length vcap (by omega)).mono ?_
        rintro e w5 ⟨rfl, hb5⟩
        have o5 := cell_keep oW hb5
        have HFIN : Hid (w5.ownsRow w.heap.size 40 5 (.slice vao (onSide side l).length vcap) (sideO side l).length (oV (sideO side l)) ∧ Below w.heap.size w w5) := by
          have e : sideO side l = onSide side l := ssort_tiny _ (by omega)
          rw [e]
          exact ⟨bk_below wW hb5 (Nat.le_refl _), HBW.out.trans (hb5.mono HBW.out.size)⟩
        clear hb5 wW rW oW sW hgl
        go_wp2_with fail
        go_ret
        exact ⟨_, rfl, HFIN.out⟩
end Go.Proofs.YtcoijhofliilmabGreatDoor
