/-
  What the law's own 'rows' returns, over this seat's translation: the same rows in new memory. Conditions stand in each theorem.
-/
import Derived.Test.YtnhhnbomokoglaaDoorCalTab
import Derived.Deep.RegionLaw
namespace Go.Proofs.YtnhhnbomokoglaaDoor
open Go.RowKit

/-- append to a row of the call's own, as one step of a region that draws its order -/
theorem step_append_own {P : Program} {ops : Array Oper} {o : Oper} {a : Act} {w : World} {K : Act → World → Prop} {Q : Exit → Act → World → Prop} {E : Prop}
    (hg : o.guard = none) (s x : Operand) (t : TypeId) (hop : o.op = Op.call { callee := Callee.builtin Builtin.append, args := #[s, x], argTypes := #[t, t] })
    (base : Nat) (e : TypeId) (i : TypeInfo) (z : Value) (size bytes : Nat) (ht : P.underlying t = some (.slice e)) (hi : P.info? e = some i) (hz : i.zero = some z)
    (hsize : i.size = size) (hby : i.bytes = bytes) (hzs : z.cells.size = size) (hsz : 0 < size)
    (v : Value) (n : Nat) (xs : List Value) (hs : a.eval s = v) (hown : w.ownsRow base e size v n xs)
    (ad : Addr) (m c : Nat) (news : List Value) (hx : a.eval x = .slice (some ad) m c) (hl : news.length = m * size) (hnews : ∀ j u, news[j]? = some u → w.cell? (ad.add j) = some u) (h1 : ∀ u ∈ news, u.oneCell' = true)
    (h63 : n + m ≤ maxLen) (hbytes : (n + m) * bytes ≤ 140737488355328) (hbase : base ≤ w.heap.size)
    (h : ∀ v' w', w'.ownsRow base e size v' (n + m) (xs ++ news) → w.grownBy w' v.ownBlock → K (a.put o.dst v') w') :
    if Region.wanted o (yielded ops a.tmps) = true then Oper.wp P o a w K Q else E := by
  have hw : Region.wanted o (yielded ops a.tmps) = true := by simp [Region.wanted, hg]
  rw [if_pos hw]
  exact wp_append_own w s x t hop base e i z size bytes ht hi hz hsize hby hzs hsz v n xs hs hown ad m c news hx hl hnews h1 h63 hbytes hbase (fun v' w' h2 h3 _ => h v' w' h2 h3)

theorem flat_append (a b : List (Int × Int)) : flat (a ++ b) = flat a ++ flat b := by
  induction a with
  | nil => rfl
  | cons r a ih => simp [flat, ih]
theorem flat_take {rs : List (Int × Int)} {k : Nat} (h : k < rs.length) : flat (rs.take k) ++ [.int .i64 (rowAt rs k).1, .int .i64 (rowAt rs k).2] = flat (rs.take (k + 1)) := by
  rw [List.take_succ_eq_append_getElem h, flat_append]
  simp [flat, rowAt, h]

theorem owns_own {w : World} {base : Nat} {e : TypeId} {size : Nat} {v : Value} {n : Nat} {xs : List Value} (h : w.ownsRow base e size v n xs) : ∀ k, v.ownBlock = some k → base ≤ k := by
  intro k hk
  obtain ⟨_, ⟨rfl, _⟩ | ⟨g, c, cur, rfl, hg, _⟩⟩ := h
  · cases hk
  · cases hk; exact hg
theorem owns_rows {w : World} {base : Nat} {e : TypeId} {v : Value} {n : Nat} {rs : List (Int × Int)} (h : w.ownsRow base e 2 v n (flat rs)) (hn : 0 < n) : ∃ cb c : Nat, v = .slice (some ⟨cb, 0, none⟩) n c ∧ RowsAt w cb 0 rs := by
  obtain ⟨_, ⟨_, h0⟩ | ⟨g, c, cur, rfl, _, hh, _, _, _, hct⟩⟩ := h
  · omega
  · refine ⟨g, c, rfl, fun j u hj => ?_⟩
    have h3 : cur.toList[j]? = some u := by
      rw [← hct, List.getElem?_take] at hj
      split at hj
      · exact hj
      · cases hj
    have h4 : cur[j]? = some u := by rw [← h3]; simp
    simp [World.cell?, hh, h4]

theorem Tryd.infoRef : (Tryd.prog.info? 62).map (fun i => (i.zero, i.size, i.bytes)) = some (some (.agg #[.int .i64 0, .int .i64 0]), 2, 16) := by kernel_rfl

set_option maxHeartbeats 400000 in
theorem rows_empty (a : Option Addr) (cap : Nat) (w : World) : Calls Tryd.prog 13 #[.slice a 0 cap] w fun e w' => e = .returned (.slice none 0 0) ∧ w' = w := by
  go_enter Tryd.func13, Tryd.ntmps13
  go_wp2_with fail
  refine wp_loop_rounds 1 ?_
  rw [rounds_succ]
  go_wp2
  go_ret
  exact ⟨rfl, rfl⟩

set_option maxRecDepth 4000 in
set_option maxHeartbeats 1000000 in
theorem rows_any (b off cap : Nat) (rs : List (Int × Int)) (w : World) (h : RowsAt w b off rs) (hne : 0 < rs.length) (hlen : rs.length ≤ 60) :
    Calls Tryd.prog 13 #[.slice (some ⟨b, off, none⟩) rs.length cap] w
      fun e w' => ∃ cb c : Nat, e = .returned (.slice (some ⟨cb, 0, none⟩) rs.length c) ∧ RowsAt w' cb 0 rs ∧ Below w.heap.size w w' := by
  obtain ⟨i0, hi, hz0, hz1, hz2⟩ := info_parts Tryd.infoRef
  have HR : Hid (RowsAt w b off rs) := h
  clear h
  go_enter Tryd.func13, Tryd.ntmps13
  go_wp2_with fail
  go_loopw [3, 4] (fun v i wr => ∃ k : Nat, k ≤ rs.length ∧ i = .int .i64 k ∧ wr.ownsRow w.heap.size 62 2 v k (flat (rs.take k)) ∧ Below w.heap.size w wr) (fun _ i _ => rs.length - (intOf i).toNat)
  case atStart => exact ⟨0, Nat.zero_le _, rfl, World.ownsRow_nil _ _ _ _, Below.refl _ _⟩
  case round =>
    obtain ⟨k, hk, rfl, hown, hb⟩ := hrel
    have HO : Hid (wr.ownsRow w.heap.size 62 2 u3 k (flat (rs.take k))) := hown
    have HB : Hid (Below w.heap.size w wr) := hb
    clear hown hb
    go_wp2_with fail
    · have hk1 : k < rs.length := by omega
      obtain ⟨c0, c1⟩ := (HR.out.below HB.out (Nat.le_refl _)).row hk1
      have c2 : ∀ W : World, W.heap.size = wr.heap.size → ∀ j u, [Value.int .i64 (rowAt rs k).1, .int .i64 (rowAt rs k).2][j]? = some u → (W.alloc (.cells #[.int .i64 (rowAt rs k).1, .int .i64 (rowAt rs k).2] 62)).cell? ((⟨wr.heap.size, 0, none⟩ : Addr).add j) = some u := fun W hW j u hj => by
        rw [Addr.add_lit, Nat.zero_add, ← hW, World.cell?_alloc_at _ _ _ _ rfl]; simpa using hj
      have C3 : Hid _ := c2 wr rfl
      clear c2
      go_region_law (refine step_append_own rfl _ _ 40 rfl w.heap.size 62 i0 (.agg #[.int .i64 0, .int .i64 0]) 2 16 Tryd.underlying40 hi hz0 hz1 hz2 rfl (by decide) u3 k (flat (rs.take k)) rfl (HO.out.alloc _) ⟨wr.heap.size, 0, none⟩ 1 1 [.int .i64 (rowAt rs k).1, .int .i64 (rowAt rs k).2] rfl rfl C3.out (by simp [Value.oneCell']) (by unfold maxLen; omega) (by omega) (Nat.le_trans HB.out.size (by simp)) ?_; intro v1 w1 ho1 hg1)
      all_goals go_wp2
      all_goals go_roundw
      case rel => exact ⟨k + 1, hk1, by go_num, flat_take hk1 ▸ ho1, (HB.out.alloc HB.out.size _).drew.grown hg1 (Nat.le_trans HB.out.size (by simp)) (owns_own HO.out)⟩
      case measure => simp [intOf]; omega
      case rel => exact ⟨k + 1, hk1, by go_num, flat_take hk1 ▸ ho1, (HB.out.alloc HB.out.size _).drew.grown hg1 (Nat.le_trans HB.out.size (by simp)) (owns_own HO.out)⟩
      case measure => simp [intOf]; omega
    · go_ret
      have hk2 : k = rs.length := by omega
      subst hk2
      have ho := HO.out
      rw [List.take_length] at ho
      obtain ⟨cb, c, rfl, hr⟩ := owns_rows ho hne
      exact ⟨cb, c, rfl, hr, HB.out⟩
end Go.Proofs.YtnhhnbomokoglaaDoor
