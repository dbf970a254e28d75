/- DeskPieces: a part of the proof, packed (the readable form: the templates). -/
import Derived.Test.YtaelphbianmckaaGreatDoorQB
import Derived.RangeFuncNested
import Derived.RangeFuncBound
import Derived.RangeFuncCalls
import Derived.RangeFuncLeaves
import Derived.Shelf.Abstract
import Derived.Shelf.RegionOpen
import Derived.OwnWalkIn
import Derived.TacticsInMore
import Derived.LoopNIn
import Derived.LoopIn
import Derived.Maps.AppendAt
import Derived.Shelf.Spec.SlicesInsert
import Derived.Lib.AppendZerosOnto
import Derived.Deep.RegionLaw
import Derived.Laws.CopyRow
import Derived.Test.YtaelphbianmckaaGreatDoorRows
import Derived.WalkKit
import Derived.WalkSpells
import Derived.WalkLawsBesides
import Derived.Handy
import Derived.BigQuiet
import Derived.OwnWalk
import Derived.OneCell
import Derived.Deep.QuietTactic
import Derived.Deep.AppendLies
import Derived.Test.YtaelphbianmckaaGreatDoorQA
namespace Go.Proofs.YtaelphbianmckaaGreatDoor
open Go.RowKit Go.Shelf
attribute [local go_sem] Oper.semAt_some
attribute [local go_sem ↓] Go.wp_at_zero Go.wp_at_succ
structure KpL (m Bb:Nat) (W W':World):Prop where
 below:Below m W W'
 box:∀vs t,W.heap[Bb]? = some (.cells vs t (0,0))→W'.heap[Bb]? = some (.cells vs t (0,0))
theorem KpL.trans {m Bb:Nat} {A B C:World} (h:KpL m Bb A B) (k:KpL m Bb B C):KpL m Bb A C:=⟨h.below.trans k.below,fun vs t e=>k.box vs t (h.box vs t e)⟩
theorem nO1 {m Bb:Nat} {A B C:World} (h:KpL m Bb A B) (k:KpL m Bb B C):KpL m Bb A C:=h.trans k
theorem nP1 {m Bb:Nat} {w:World} (hm:m≤w.heap.size) (W:World) (l:Nat) (o o':Obj) (hl:w.heap.size≤l) (h:W.heap[l]? = some o) (hc:o.isCells=false) (hw:o.isWalk=false):KpL m Bb W (W.putObj l o'):=
 ⟨belowK_b hm W l o o' hl h hc hw,fun vs t e=>by
  have hne:l≠Bb:=fun e'=>by subst e';rw [e] at h;injection h with h;subst h;cases hc
  exact (World.putObj_heap_other (Ne.symm hne)).trans e⟩
theorem KpL.of_below {m Bb:Nat} {W W':World} (h:Below W.heap.size W W') (hm:m≤W.heap.size):KpL m Bb W W':=⟨h.mono hm,fun _ _ e=>aD0 e h lR7⟩
theorem eN0 {W W':World} (h:Below W.heap.size W W'):W.grownBy W' none:=⟨h.os,h.tape,h.output,h.size,fun k hk _=>h.block k hk⟩
theorem jW0 {l:List Ly} {k:Nat} (h:k<l.length):(l.take (k+1)).map Ly.o=(l.take k).map Ly.o++[(lyAt l k).o]:=by
 rw [List.take_succ_eq_append_getElem h,List.map_append,iD0 h];rfl
set_option maxRecDepth 100000 in
set_option maxHeartbeats 4000000 in
theorem lyIt (n:Nat) (hn:1≤n) (l Bb Bs m bb ab mb nn s:Nat) (vs vf v0 v1:Value) (rs:List Sot) (fr:List Nat) (S:Nat→List Ly) (J Jx:List Ord→World→Prop) (hs:s<2) (hlen:(S s).length≤1000)
  (hth:∀x∈S s,soAt rs x.slot=(some x.o,x.age)) (hm:∀k,pbB bb ab mb vs vf v0 v1 k→k<m)
  (W:World) (hmW:m≤W.heap.size) (hB:BookAt W bb ab mb nn vs vf v0 v1 rs fr S) (hbb:W.heap[Bb]? = some (.cells #[.pointer (some ⟨bb,0,none⟩)] 161 (0,0))) (hbs:W.cell? ⟨Bs,0,none⟩=some (.int .i64 s))
  (hJ:AbidesFrom W.heap.size J)
  (hY:∀pre x W,J pre W→pre.length<(S s).length→YieldAt Fence.wide (n - 1) Tryz.prog l #[Ord.agg x] W fun e W'=>
   (e=.returned (.bool true)∧J (pre++[x]) W'∧KpL m Bb W W')∨(e=.returned (.bool false)∧Jx (pre++[x]) W'))
  (h0:J [] W):
  CallsIn Fence.wide n Tryz.prog 254 #[.func (.yield l) #[] #[],.pointer (some ⟨Bb,0,none⟩),.pointer (some ⟨Bs,0,none⟩)] W fun e W'=>(∃v,e=.returned v)∧
   ((∃ys,ys=(S s).map Ly.o∧J ys W')∨(∃pre,pre <+:(S s).map Ly.o∧Jx pre W')):=by
 obtain ⟨hrow,hc,_⟩:=hB.row hs;have HBK:Hid (BookAt W bb ab mb nn vs vf v0 v1 rs fr S):=hB;have HM:Hid (∀k,pbB bb ab mb vs vf v0 v1 k→k<m):=hm;have HTH:Hid (∀x∈S s,soAt rs x.slot=(some x.o,x.age)):=hth;have HJ:Hid (AbidesFrom W.heap.size J):=hJ;have HY:Hid _:=hY;have HBB:Hid (W.heap[Bb]? = some (.cells #[.pointer (some ⟨bb,0,none⟩)] 161 (0,0))):=hbb;have cb:=aA0 (j:=0) hbb rfl;have HROW:Hid _:=hrow;obtain ⟨ao,cap,hv,_,_⟩:=aY0 hrow;rw [hv] at hc HROW;have q1:(0:Int)≤(s:Int):=by omega
 have q2:(s:Int)<2:=by omega
 clear hB hm hth hJ hY hbb hrow;refine callsIn_of_wp Tryz.func254 rfl trivial ?_ rfl;simp only [Tryz.ntmps254,List.size_toArray,List.length_cons,List.length_nil,Nat.reduceAdd,Nat.reduceSub,Array.replicate_succ,Array.replicate_zero,List.push_toArray,List.append_toArray,List.nil_append,List.cons_append]
 gi_wp2_with fail
 refine wpIn_wide.2 ?_;go_quiet (fail);have HJ0:Hid (J ((([]:List Ly)).map Ly.o) (W.drewN nq)):=HJ.out [] W _ none h0 (eN0 (below_drewN (Below.refl _ _) nq)) (fun r e=>by cases e);have HK0:Hid (KpL m Bb W (W.drewN nq)):=KpL.of_below (below_drewN (Below.refl _ _) nq) hmW;generalize W.drewN nq=Wd at HJ0 HK0 ⊢;clear h0 hbs hc cb
 gi_wp2_with fail
 gi_loopw [15] (fun i wr=>∃k:Nat,k≤(S s).length∧i=.int .i64 k∧J (((S s).take k).map Ly.o) wr∧KpL m Bb W wr)
  (fun i _=>(S s).length - (intOf i).toNat)
 case atStart=>exact ⟨0,Nat.zero_le _,rfl,HJ0.out,HK0.out⟩
 case round=>
  obtain ⟨k,hk,rfl,hJs,hkp⟩:=hrel;have HJS:Hid (J (((S s).take k).map Ly.o) wr):=hJs;have HKP:Hid (KpL m Bb W wr):=hkp;have hmr:m≤wr.heap.size:=Nat.le_trans hmW hkp.below.size;clear hJs hkp
  by_cases hlt:k<(S s).length
  ·have HBR:Hid (BookAt wr bb ab mb nn vs vf v0 v1 rs fr S):=HBK.out.above HKP.out.below HM.out;have hrr:=(HBR.out.row hs).1;rw [hv] at hrr;obtain ⟨g,cap',hv',_,_⟩:=hrr.form (by omega);simp only [Value.slice.injEq,true_and] at hv';obtain ⟨rfl,rfl⟩:=hv';have c0:=(hrr.cellAt (k*2) (by omega)).trans (zQ0 hlt).1;have c1:=(hrr.cellAt (k*2+1) (by omega)).trans (zQ0 hlt).2;have hth:=HTH.out _ (xO0 hlt);have HO:Hid _:=hth;generalize hx:lyAt (S s) k=x at c0 c1 hth HO;have HX:Hid (lyAt (S s) k=x):=hx;clear hrr hx hth
   gi_wp2_with fail
   refine wpIn_wide.2 ?_;have hbh:=bel1 wr (.cells #[.int .i64 x.slot,.int .i64 x.age] 240);have hhh:=heap_alloc_new wr (.cells #[.int .i64 x.slot,.int .i64 x.age] 240);generalize wr.alloc (.cells #[.int .i64 x.slot,.int .i64 x.age] 240)=wh at hbh hhh ⊢;generalize wr.heap.size=hb0 at hhh ⊢;have HBH:Hid (Below wr.heap.size wr wh):=hbh;have HBW:Hid (BookAt wh bb ab mb nn vs vf v0 v1 rs fr S):=HBR.out.below hbh lR7;have hBb:=aD0 (HKP.out.box _ _ HBB.out) hbh lR7;have e0:wh.cell? ⟨Bb,0,none⟩=some (.pointer (some ⟨bb,0,none⟩)):=aA0 (j:=0) hBb rfl;have e1:wh.cell? ⟨bb,0,none⟩=some (.pointer (some ⟨ab,0,none⟩)):=aA0 (j:=0) HBW.out.box rfl;have e2:wh.cell? ⟨hb0,0,none⟩=some (.int .i64 x.slot):=aA0 (j:=0) hhh rfl;have e3:wh.cell? ⟨hb0,1,none⟩=some (.int .i64 x.age):=aA0 (j:=1) hhh rfl
   have HS:Hid (∀w',Below wh.heap.size wh w'→(w'.cell? ⟨Bb,0,none⟩=some (.pointer (some ⟨bb,0,none⟩))∧w'.cell? ⟨bb,0,none⟩=some (.pointer (some ⟨ab,0,none⟩))∧w'.cell? ⟨hb0,0,none⟩=some (.int .i64 x.slot)∧w'.cell? ⟨hb0,1,none⟩=some (.int .i64 x.age)∧Below wh.heap.size wh w')):=
    fun w' h=>⟨cell_later h e0,cell_later h e1,cell_later h e2,cell_later h e3,h⟩
   clear hbh hhh hBb e0 e1 e2 e3 c0 c1;have hs0:=HS.out wh (Below.refl _ _)
   go_region_held3 (fun w'=>w'.cell? ⟨Bb,0,none⟩=some (.pointer (some ⟨bb,0,none⟩))∧w'.cell? ⟨bb,0,none⟩=some (.pointer (some ⟨ab,0,none⟩))∧w'.cell? ⟨hb0,0,none⟩=some (.int .i64 x.slot)∧w'.cell? ⟨hb0,1,none⟩=some (.int .i64 x.age)∧Below wh.heap.size wh w')
    ((refine HS.out _ ?_;(repeat' first | assumption | exact Below.refl _ _ | exact lR7 | refine Below.drew ?_ | refine Below.alloc ?_ ?_ _ | refine aC0 ?_ hb1 | refine Below.setCell ?_ ?_ _ | (simp;done) | (simp;omega) | (have h9:=hb1.size;simp at h9 ⊢;omega))))
    (first | (go_at_call 243;refine (nL1 ab 100 vs vf rs fr x.slot x.o x.age _ (HBW.out.ar.below (B:=wh.heap.size) ?_ lR7) HO.out).mono ?_;(repeat' first | assumption | exact Below.refl _ _ | exact lR7 | refine Below.drew ?_ | refine Below.alloc ?_ ?_ _ | refine aC0 ?_ hb1 | refine Below.setCell ?_ ?_ _ | (simp;done) | (simp;omega) | (have h9:=hb1.size;simp at h9 ⊢;omega));rintro e w1 ⟨hb1,rfl⟩;unfold Ord.agg;try (have hxb:=(hb1.block wh.heap.size (by simp)).trans (heap_alloc_new wh _);have y0:=aA0 (j:=0) hxb rfl;have y1:=aA0 (j:=1) hxb rfl;have y2:=aA0 (j:=2) hxb rfl;have y3:=aA0 (j:=3) hxb rfl;have y4:=aA0 (j:=4) hxb rfl;have z0:=aB0 (j:=0) hxb;have z1:=aB0 (j:=1) hxb;have z2:=aB0 (j:=2) hxb;have z3:=aB0 (j:=3) hxb;have z4:=aB0 (j:=4) hxb)))
   rotate_right
   ·have hz:=aH0 (j:=4) (.int .i64 x.o.qty) (aH0 (j:=3) (.int .i64 x.o.price) (aH0 (j:=2) (.int .i64 x.o.kind) (aH0 (j:=1) (.int .i64 x.o.side) (aH0 (j:=0) (.int .i64 x.o.id) hxb))));replace hz:(((((w1.setCell ⟨wh.heap.size,0,none⟩ (.int .i64 x.o.id)).setCell ⟨wh.heap.size,1,none⟩ (.int .i64 x.o.side)).setCell ⟨wh.heap.size,2,none⟩ (.int .i64 x.o.kind)).setCell ⟨wh.heap.size,3,none⟩ (.int .i64 x.o.price)).setCell ⟨wh.heap.size,4,none⟩ (.int .i64 x.o.qty)).heap[wh.heap.size]? = some (.cells #[.int .i64 x.o.id,.int .i64 x.o.side,.int .i64 x.o.kind,.int .i64 x.o.price,.int .i64 x.o.qty] 92 (0,0)):=hz
    have hbz:Below wr.heap.size wr (((((w1.setCell ⟨wh.heap.size,0,none⟩ (.int .i64 x.o.id)).setCell ⟨wh.heap.size,1,none⟩ (.int .i64 x.o.side)).setCell ⟨wh.heap.size,2,none⟩ (.int .i64 x.o.kind)).setCell ⟨wh.heap.size,3,none⟩ (.int .i64 x.o.price)).setCell ⟨wh.heap.size,4,none⟩ (.int .i64 x.o.qty)):=by
     refine aC0 HBH.out ?_;have h9:=hb1.size;have h8:Below wh.heap.size wh w1:=aC0 (bel1 wh _).drew hb1;exact ((((h8.setCell (p:=⟨wh.heap.size,0,none⟩) lR7 _).setCell (p:=⟨wh.heap.size,1,none⟩) lR7 _).setCell (p:=⟨wh.heap.size,2,none⟩) lR7 _).setCell (p:=⟨wh.heap.size,3,none⟩) lR7 _).setCell (p:=⟨wh.heap.size,4,none⟩) lR7 _
    generalize ((((w1.setCell ⟨wh.heap.size,0,none⟩ (.int .i64 x.o.id)).setCell ⟨wh.heap.size,1,none⟩ (.int .i64 x.o.side)).setCell ⟨wh.heap.size,2,none⟩ (.int .i64 x.o.kind)).setCell ⟨wh.heap.size,3,none⟩ (.int .i64 x.o.price)).setCell ⟨wh.heap.size,4,none⟩ (.int .i64 x.o.qty)=wz at hz hbz ⊢;generalize wh.heap.size=xb at hz ⊢;have x0:=aA0 (j:=0) hz rfl;have x1:=aA0 (j:=1) hz rfl;have x2:=aA0 (j:=2) hz rfl;have x3:=aA0 (j:=3) hz rfl;have x4:=aA0 (j:=4) hz rfl;obtain ⟨fn,tmps,assign,body,hy,hR⟩:=HY.out _ x.o wz (HJ.out _ wr wz none HJS.out (eN0 hbz) (fun r e=>by cases e)) (by simp;omega);unfold Ord.agg at hy;have HBZ:Hid (Below wr.heap.size wr wz):=hbz;clear hbz hz hs0
    gi_wp2
    refine hR.mono ?_;rintro e W3 (⟨rfl,hJ3,hk3⟩ | ⟨rfl,hJx3⟩)
    ·have HJ3:Hid _:=hJ3;have HK3:Hid _:=hk3;clear hJ3 hk3 hy hR x0 x1 x2 x3 x4
     gi_wp2
     go_roundw
     case rel=>exact ⟨k+1,by omega,by simp,by rw [jW0 hlt,HX.out];exact HJ3.out,(HKP.out.trans (KpL.of_below HBZ.out hmr)).trans HK3.out⟩
     case measure=>simp [intOf];omega
    ·have HJ3:Hid _:=hJx3;clear hJx3 hy hR x0 x1 x2 x3 x4
     gi_wp2
     refine bodyPost_ret (results_none rfl _ _ _) rfl ?_;refine ⟨⟨_,rfl⟩,.inr ⟨_,?_,HJ3.out⟩⟩;rw [←HX.out,←jW0 hlt];exact (List.take_prefix _ _).map _
   ·have hz:=heap_alloc_new w1 (.cells #[.int .i64 x.o.id,.int .i64 x.o.side,.int .i64 x.o.kind,.int .i64 x.o.price,.int .i64 x.o.qty] 92);have hbz:Below wr.heap.size wr (w1.alloc (.cells #[.int .i64 x.o.id,.int .i64 x.o.side,.int .i64 x.o.kind,.int .i64 x.o.price,.int .i64 x.o.qty] 92)):=aC0 HBH.out (aC0 (w1:=w1) (aC0 (w:=wh) (w1:=wh.drew) (Below.refl _ _).drew hb1) (bel1 _ _));generalize w1.alloc (.cells #[.int .i64 x.o.id,.int .i64 x.o.side,.int .i64 x.o.kind,.int .i64 x.o.price,.int .i64 x.o.qty] 92)=wz at hz hbz ⊢;generalize w1.heap.size=xb at hz ⊢;have x0:=aA0 (j:=0) hz rfl;have x1:=aA0 (j:=1) hz rfl;have x2:=aA0 (j:=2) hz rfl;have x3:=aA0 (j:=3) hz rfl;have x4:=aA0 (j:=4) hz rfl;obtain ⟨fn,tmps,assign,body,hy,hR⟩:=HY.out _ x.o wz (HJ.out _ wr wz none HJS.out (eN0 hbz) (fun r e=>by cases e)) (by simp;omega);unfold Ord.agg at hy;have HBZ:Hid (Below wr.heap.size wr wz):=hbz;clear hbz hz hs0
    gi_wp2
    refine hR.mono ?_;rintro e W3 (⟨rfl,hJ3,hk3⟩ | ⟨rfl,hJx3⟩)
    ·have HJ3:Hid _:=hJ3;have HK3:Hid _:=hk3;clear hJ3 hk3 hy hR x0 x1 x2 x3 x4
     gi_wp2
     go_roundw
     case rel=>exact ⟨k+1,by omega,by simp,by rw [jW0 hlt,HX.out];exact HJ3.out,(HKP.out.trans (KpL.of_below HBZ.out hmr)).trans HK3.out⟩
     case measure=>simp [intOf];omega
    ·have HJ3:Hid _:=hJx3;clear hJx3 hy hR x0 x1 x2 x3 x4
     gi_wp2
     refine bodyPost_ret (results_none rfl _ _ _) rfl ?_;refine ⟨⟨_,rfl⟩,.inr ⟨_,?_,HJ3.out⟩⟩;rw [←HX.out,←jW0 hlt];exact (List.take_prefix _ _).map _
  ·obtain rfl:k=(S s).length:=by omega
   gi_wp2_with fail
   go_end0;refine ⟨⟨_,rfl⟩,.inl ⟨_,rfl,?_⟩⟩;have:=HJS.out
   rwa [List.take_length] at this
theorem nQ1 (n:Nat) (hn:1≤n) (Bb Bs m bb ab mb nn s:Nat) (vs vf v0 v1:Value) (rs:List Sot) (fr:List Nat) (S:Nat→List Ly) (hs:s<2) (hlen:(S s).length≤1000)
  (hth:∀x∈S s,soAt rs x.slot=(some x.o,x.age)) (hm:∀k,pbB bb ab mb vs vf v0 v1 k→k<m)
  (w:World) (hmW:m≤w.heap.size) (hB:BookAt w bb ab mb nn vs vf v0 v1 rs fr S) (hbb:w.heap[Bb]? = some (.cells #[.pointer (some ⟨bb,0,none⟩)] 161 (0,0))) (hbs:w.heap[Bs]? = some (.cells #[.int .i64 s] 3 (0,0))):
  SeqStopsK Fence.wide n Tryz.prog 254 #[.pointer (some ⟨Bb,0,none⟩),.pointer (some ⟨Bs,0,none⟩)] (fun x:Ord=>#[Ord.agg x]) (KpL m Bb) (fun ys=>ys=(S s).map Ly.o) (fun pre=>pre <+:(S s).map Ly.o) (S s).length w:=
 fun l J Jx W hW hJ _ hY h0=>lyIt n hn l Bb Bs m bb ab mb nn s vs vf v0 v1 rs fr S J Jx hs hlen hth hm W (Nat.le_trans hmW hW.size) (hB.below hW lR7) (aD0 hbb hW lR7) (aA0 (j:=0) (aD0 hbs hW lR7) rfl) hJ hY h0
set_option maxHeartbeats 1000000 in
theorem nK0 (bb:Nat) (s:Int) (w:World):Calls Tryz.prog 196 #[.pointer (some ⟨bb,0,none⟩),.int .i64 s] w fun e w'=>e=.returned (.func (.func 254) #[] #[.pointer (some ⟨w.heap.size,0,none⟩),.pointer (some ⟨w.heap.size+1,0,none⟩)])
  ∧w'=(w.alloc (.cells #[.pointer (some ⟨bb,0,none⟩)] 161)).alloc (.cells #[.int .i64 s] 3):=by
 go_enter Tryz.func196,Tryz.ntmps196;go_wp2;go_ret;exact ⟨rfl,rfl⟩
set_option maxHeartbeats 1000000 in
theorem iU0 (s:Int) (w:World):Calls Tryz.prog 194 #[.int .i64 s] w fun e w'=>e=.returned (.bool (s == 1 || s == 2))∧w'=w:=by
 cases h1:(s == 1) with
 | true=>
  go_enter Tryz.func194,Tryz.ntmps194;go_wp2;go_ret;exact ⟨rfl,rfl⟩
 | false=>
  cases h2:(s == 2) with
  | true=>
   go_enter Tryz.func194,Tryz.ntmps194;go_wp2;go_ret;exact ⟨rfl,rfl⟩
  | false=>
   go_enter Tryz.func194,Tryz.ntmps194;go_wp2;go_ret;exact ⟨rfl,rfl⟩
end Go.Proofs.YtaelphbianmckaaGreatDoor
namespace Go.Proofs.YtaelphbianmckaaGreatDoor
open Go.RowKit Go.Shelf
attribute [local go_sem] Oper.semAt_some
theorem eO0 {W W':World} {row:Option Nat} {b:Nat} {vs:Array Value} {t:TypeId} {f:Nat×Nat} (h:W.heap[b]? = some (.cells vs t f)) (hg:W.grownBy W' row) (hr:∀r,row=some r→∃o:Obj,W.heap[r]? = some o∧o.isCells=false):W'.heap[b]? = some (.cells vs t f):=
 (hg.block b (lt_of_block h) (fun e=>by
  obtain ⟨o,ho,hc⟩:=hr b e.symm;rw [h] at ho;injection ho with ho;subst ho;cases hc)).trans h
def cP0 (W:World) (b:Nat) (x:Ord):Prop:=W.heap[b]? = some (.cells #[.int .i64 x.id,.int .i64 x.side,.int .i64 x.kind,.int .i64 x.price,.int .i64 x.qty] 92 (0,0))
theorem Tryz.infoO:(Tryz.prog.info? 92).map (fun i=>(i.zero,i.size,i.bytes))=some (some (.agg #[.int .i64 0,.int .i64 0,.int .i64 0,.int .i64 0,.int .i64 0]),5,40):=by kernel_rfl
theorem nR1 (l:List Ord) (x:Ord):oV (l++[x])=oV l++[.int .i64 x.id,.int .i64 x.side,.int .i64 x.kind,.int .i64 x.price,.int .i64 x.qty]:=by rw [gM0];rfl
set_option maxRecDepth 100000 in
set_option maxHeartbeats 4000000 in
theorem rA0 (Bb Bs bb ab mb nn s:Nat) (vs vf v0 v1:Value) (rs:List Sot) (fr:List Nat) (S:Nat→List Ly) (hs:s<2) (hlen:(S s).length≤1000)
  (hth:∀x∈S s,soAt rs x.slot=(some x.o,x.age)) (w:World) (hB:BookAt w bb ab mb nn vs vf v0 v1 rs fr S) (hbb:w.heap[Bb]? = some (.cells #[.pointer (some ⟨bb,0,none⟩)] 161 (0,0))) (hbs:w.heap[Bs]? = some (.cells #[.int .i64 s] 3 (0,0))):
  Calls Tryz.prog 253 #[.slice none 0 0,.func (.func 254) #[] #[.pointer (some ⟨Bb,0,none⟩),.pointer (some ⟨Bs,0,none⟩)]] w
   fun e W'=>∃v,e=.returned v∧W'.ownsRow w.heap.size 92 5 v (S s).length (oV ((S s).map Ly.o))∧Below w.heap.size w W':=by
 obtain ⟨i0,hi,hz0,hz1,hz2⟩:=info_parts Tryz.infoO;refine (callsIn_wide (n:=4)).1 ?_;refine callsIn_of_wp_marks Tryz.func253 rfl trivial ?_ rfl;simp only [Tryz.ntmps253,List.size_toArray,List.length_cons,List.length_nil,Nat.reduceAdd,Nat.reduceSub,Array.replicate_succ,Array.replicate_zero,List.push_toArray,List.append_toArray,List.nil_append,List.cons_append]
 gi_wp2_with fail
 have bO:=Boxed.new w 99 (.slice none 0 0);have hB0:=bel1 w (.cells #[.slice none 0 0] 99);have HK:∀k,pbB bb ab mb vs vf v0 v1 k→k<w.heap.size:=fun k hk=>hB.lt hk
 have lBb:=lt_of_block hbb;obtain ⟨W0,hW0⟩:∃W0,w.alloc (.cells #[.slice none 0 0] 99)=W0:=⟨_,rfl⟩;have hsz:W0.heap.size=w.heap.size+1:=by rw [←hW0];simp
 rw [hW0] at bO hB0 ⊢;clear hW0
 refine wpIn_rangeFunc_ownH (F:=Fence.wide) (n:=4) rfl (by decide) (gf:=254) (lb:=#[.pointer (some ⟨Bb,0,none⟩),.pointer (some ⟨Bs,0,none⟩)]) rfl trivial (enters_of Tryz.func254 (by kernel_rfl) rfl)
  (nQ1 3 (by decide) Bb Bs w.heap.size bb ab mb nn s vs vf v0 v1 rs fr S hs hlen hth HK W0 (by omega) (hB.below hB0 lR7) (aD0 hbb hB0 lR7) (aD0 hbs hB0 lR7)) nO1 (nP1 (by omega)) (Below.refl _ _) (fun _=>rfl)
  (fun pre W=>(∃v,Boxed W w.heap.size 99 v∧W.ownsRow w.heap.size 92 5 v pre.length (oV pre)∧True)∧Below w.heap.size w W)
  (fun _ _ _=>False)
  (OwnFrom.and (Own.from (holdsRow_own w.heap.size w.heap.size 99 92 5 (fun pre=>pre.length) (fun pre=>oV pre) (fun _ _=>True)) _) (ownFrom_below lR7 (by omega)))
  (fun _ _ _ _ _ hs _ _=>hs)
  ⟨⟨_,bO,World.ownsRow_nil _ _ _ _,trivial⟩,hB0⟩
  (fun x a' W=>∃Bx,w.heap.size<Bx∧cP0 W Bx x∧a'={ tmps:=#[.slice none 0 0,.func (.func 254) #[] #[.pointer (some ⟨Bb,0,none⟩),.pointer (some ⟨Bs,0,none⟩)],.pointer (some ⟨w.heap.size,0,none⟩),undef,.slice none 0 0,.pointer (some ⟨Bx,0,none⟩),.func (.func 254) #[] #[.pointer (some ⟨Bb,0,none⟩),.pointer (some ⟨Bs,0,none⟩)],Ord.agg x,undef,undef,undef,undef,undef],defers:=[] })
  (fun x a' _ X Y row hs hg hr=>by obtain ⟨Bx,h1,h2,h3⟩:=hs;exact ⟨Bx,h1,eO0 h2 hg (fun r e=>(hr r e).2),h3⟩)
  ?assign ?body ?done ?stop
 case assign=>
  rintro l pre x W K ⟨⟨v,hv,hrow,_⟩,hBW⟩ hK;unfold Ord.agg at hK ⊢
  gi_wp2
  refine hK _ _ ((KeepsOthers.alloc _ _).from _) (KpL.of_below (bel1 _ _) hBW.size) ⟨⟨v,hv.alloc _,hrow.alloc _,trivial⟩,hBW.alloc hBW.size _⟩ ⟨W.heap.size,hv.lt,heap_alloc_new _ _,rfl⟩
 case body=>
  rintro l pre x a' W hl ⟨r,hr⟩ ⟨⟨v,hv,hrow,_⟩,hBW⟩ ⟨Bx,hBx,bX,rfl⟩ hlt;have hc:=hv.cell;have c0:=aA0 (j:=0) bX rfl;have c1:=aA0 (j:=1) bX rfl;have c2:=aA0 (j:=2) bX rfl;have c3:=aA0 (j:=3) bX rfl;have c4:=aA0 (j:=4) bX rfl;have HBS:=hBW.size;unfold Ord.agg
  gi_wp2_with (gi_at_builtin;refine wpListIn_append_own _ rfl _ _ 99 rfl w.heap.size 92 i0 (.agg #[.int .i64 0,.int .i64 0,.int .i64 0,.int .i64 0,.int .i64 0]) 5 40 Tryz.underlying99 hi hz0 hz1 hz2 rfl (by decide) _ _ _ rfl (hrow.alloc _) ⟨W.heap.size,0,none⟩ 1 1 [.int .i64 x.id,.int .i64 x.side,.int .i64 x.kind,.int .i64 x.price,.int .i64 x.qty] rfl rfl (World.news_of_block (cs:=#[.int .i64 x.id,.int .i64 x.side,.int .i64 x.kind,.int .i64 x.price,.int .i64 x.qty]) (t:=92) (fr:=(0,0)) (heap_alloc_new W _)) (by simp [Value.oneCell']) (by unfold maxLen;omega) (by omega) (by simp;omega) ?_;intro v' w1 hown' hgrow _;obtain ⟨g',cap',rfl⟩:=ownsRow_succ hown';obtain ⟨hv1,hv2,hr2,hk2,hb2⟩:=hv.appended (by decide) hrow hBW.size lR7 hown' hgrow;have hc1:=hv1.cell;have hf1:=hv1.frozen)
  exact ⟨hk2.from _,⟨hb2,fun _ _ e=>(hb2.block Bb lBb).trans e⟩,⟨_,hv2,by rw [nR1,List.length_append];exact hr2,trivial⟩,hBW.trans hb2⟩
 case done=>
  rintro D ys W hD rfl ⟨⟨v,hv,hrow,_⟩,hBW⟩ hK;have hc:=hv.cell
  gi_wp2
  refine ⟨by simp,.inl ⟨_,_,rfl,run_takeDeferred hK,?_⟩⟩;exact ⟨_,results_tmp rfl _ _ _,v,rfl,by simpa using ownsRow_putObj hrow _ hK rfl,hBW.trans (belowK_b (w:=w) lR7 W D _ _ (by omega) hK rfl rfl)⟩
 case stop=>
  rintro D c pre W _ _ h _;exact h.elim
set_option maxHeartbeats 1000000 in
theorem vH0 (Bb Bs bb ab mb nn s:Nat) (vs vf v0 v1:Value) (rs:List Sot) (fr:List Nat) (S:Nat→List Ly) (hs:s<2) (hlen:(S s).length≤1000)
  (hth:∀x∈S s,soAt rs x.slot=(some x.o,x.age)) (w:World) (hB:BookAt w bb ab mb nn vs vf v0 v1 rs fr S) (hbb:w.heap[Bb]? = some (.cells #[.pointer (some ⟨bb,0,none⟩)] 161 (0,0))) (hbs:w.heap[Bs]? = some (.cells #[.int .i64 s] 3 (0,0))):
  Calls Tryz.prog 195 #[.func (.func 254) #[] #[.pointer (some ⟨Bb,0,none⟩),.pointer (some ⟨Bs,0,none⟩)]] w
   fun e W'=>∃v,e=.returned v∧W'.ownsRow w.heap.size 92 5 v (S s).length (oV ((S s).map Ly.o))∧Below w.heap.size w W':=by
 have H:Hid (BookAt w bb ab mb nn vs vf v0 v1 rs fr S):=hB;have HT:Hid (∀x∈S s,soAt rs x.slot=(some x.o,x.age)):=hth;have H3:Hid _:=hbb;have H4:Hid _:=hbs;clear hB hbb hbs hth;go_enter Tryz.func195,Tryz.ntmps195;go_wp2_with fail;refine (rA0 Bb Bs bb ab mb nn s vs vf v0 v1 rs fr S hs hlen HT.out w H.out H3.out H4.out).mono ?_;rintro e w1 ⟨v,rfl,h1,h2⟩;have H1:Hid _:=h1;have H2:Hid _:=h2;clear h1 h2;go_wp2;go_ret;exact ⟨v,rfl,H1.out,H2.out⟩
theorem qO1 (bb ab mb nn s:Nat) (vs vf v0 v1:Value) (rs:List Sot) (fr:List Nat) (S:Nat→List Ly) (hs:s<2) (hlen:(S s).length≤1000)
  (hth:∀x∈S s,soAt rs x.slot=(some x.o,x.age)) (w:World) (hB:BookAt w bb ab mb nn vs vf v0 v1 rs fr S) (side:Int) (hsd:side=(s:Int)+1):
  Calls Tryz.prog 133 #[.pointer (some ⟨bb,0,none⟩),.int .i64 side] w
   fun e W'=>∃v,e=.returned (.tuple #[v,.nilIface])∧W'.ownsRow w.heap.size 92 5 v (S s).length (oV ((S s).map Ly.o))∧Below w.heap.size w W':=by
 have hss:(side == 1 || side == 2)=true:=by
  subst hsd
  match s,hs with
  | 0,_=>rfl
  | 1,_=>rfl
 have HS:Hid ((side == 1 || side == 2)=true):=hss;have hsub:IntKind.i64.wrap (side - 1)=(s:Int):=by rw [hsd,show (s:Int)+1 - 1=s by omega];exact IntWalk.i64_in _ (by omega)
 have H:Hid (BookAt w bb ab mb nn vs vf v0 v1 rs fr S):=hB;have HT:Hid (∀x∈S s,soAt rs x.slot=(some x.o,x.age)):=hth;have HSD:Hid (side=(s:Int)+1):=hsd;clear hB hss hth hsd;go_enter Tryz.func133,Tryz.ntmps133;go_wp2_with fail;refine (iU0 side _).mono ?_;rintro e w1 ⟨rfl,hw⟩;replace hw:=hw.symm;subst hw;rw [HS.out];go_wp2_with fail;refine (nK0 bb _ _).mono ?_;rintro e w1 ⟨rfl,rfl⟩;go_wp2_with fail;have hb:=bel2 w (.cells #[.pointer (some ⟨bb,0,none⟩)] 161) (.cells #[.int .i64 s] 3);refine (vH0 w.heap.size (w.heap.size+1) bb ab mb nn s vs vf v0 v1 rs fr S hs hlen HT.out _ (H.out.below hb lR7) (eG0 w _ _) (dK0 w _ _)).mono ?_;rintro e w2 ⟨v,rfl,h1,h2⟩;have H1:Hid _:=h1;have H2:Hid _:=h2;clear h1 h2;go_wp2;go_ret2;exact ⟨v,rfl,⟨H1.out.1,H1.out.2.imp id (fun ⟨g,cap,cur,a,b,c⟩=>⟨g,cap,cur,a,by simp at b;omega,c⟩)⟩,aC0 hb H2.out⟩
end Go.Proofs.YtaelphbianmckaaGreatDoor
namespace Go.Proofs.YtaelphbianmckaaGreatDoor
open Go.RowKit Go.Shelf
attribute [local go_sem] Oper.semAt_some
def cQ0 (o x:Ord):Bool:=if x.kind=2 then false else if o.kind=2 then true else if o.side=1 then decide (x.price<o.price) else decide (o.price<x.price)
def eU0 (o:Ord) (l:List Ord):Nat:=(l.takeWhile fun y=>!cQ0 o y).length
theorem iH1 (o:Ord) (l:List Ord):eU0 o l≤l.length:=(List.takeWhile_prefix _).length_le
theorem cD1 {o:Ord} {l:List Ord} (h:∀y∈l,cQ0 o y=false):eU0 o l=l.length:=by
 unfold eU0
 congr 1
 induction l with
 | nil=>rfl
 | cons a l ih=>rw [List.takeWhile_cons,h a (by simp)];simp [ih (fun y hy=>h y (by simp [hy]))]
theorem zV0 {o x:Ord} {p l:List Ord} (hl:p++[x] <+:l) (h:∀y∈p,cQ0 o y=false) (hx:cQ0 o x=true):eU0 o l=p.length:=by
 obtain ⟨r,rfl⟩:=hl;unfold eU0;rw [List.append_assoc]
 induction p with
 | nil=>simp [hx]
 | cons a p ih=>rw [List.cons_append,List.takeWhile_cons,h a (by simp)];simp;simpa using ih (fun y hy=>h y (by simp [hy]))
theorem nL0 {W W':World} (h:Below W.heap.size W W'):KeepsOthers W W':=KeepsOthers.of_grownBy (eN0 h) (fun j o e=>by cases e)
set_option maxHeartbeats 2000000 in
theorem zW0 (o x:Ord) (w:World):Calls Tryz.prog 293 #[o.agg,x.agg] w fun e w'=>e=.returned (.bool (cQ0 o x))∧Below w.heap.size w w':=by
 unfold Ord.agg
 by_cases h1:x.kind=2
 ·have HR:Hid (cQ0 o x=false):=if_pos h1;go_enter Tryz.func293,Tryz.ntmps293;go_wp2;go_ret;exact ⟨by rw [HR.out];rfl,bel2 _ _ _⟩
 have b1:(x.kind == 2)=false:=beq_eq_false_iff_ne.2 h1
 by_cases h2:o.kind=2
 ·have HR:Hid (cQ0 o x=true):=by show _=_;unfold cQ0;rw [if_neg h1,if_pos h2]
  clear h1;go_enter Tryz.func293,Tryz.ntmps293;go_wp2;go_ret;exact ⟨by rw [HR.out];rfl,bel2 _ _ _⟩
 have b2:(o.kind == 2)=false:=beq_eq_false_iff_ne.2 h2
 by_cases h3:o.side=1
 ·have HR:Hid (cQ0 o x=decide (x.price<o.price)):=by show _=_;unfold cQ0;rw [if_neg h1,if_neg h2,if_pos h3]
  clear h1 h2;go_enter Tryz.func293,Tryz.ntmps293;go_wp2;go_ret;exact ⟨by rw [HR.out];rfl,bel2 _ _ _⟩
 have b3:(o.side == 1)=false:=beq_eq_false_iff_ne.2 h3;have HR:Hid (cQ0 o x=decide (o.price<x.price)):=by show _=_;unfold cQ0;rw [if_neg h1,if_neg h2,if_neg h3]
 clear h1 h2 h3;go_enter Tryz.func293,Tryz.ntmps293;go_wp2;go_ret;exact ⟨by rw [HR.out];rfl,bel2 _ _ _⟩
set_option maxRecDepth 100000 in
set_option maxHeartbeats 4000000 in
theorem iI1 (bb ab mb nn s:Nat) (vs vf v0 v1:Value) (rs:List Sot) (fr:List Nat) (S:Nat→List Ly) (o:Ord) (hs:s<2) (hlen:(S s).length≤1000)
  (hth:∀x∈S s,soAt rs x.slot=(some x.o,x.age)) (w:World) (hB:BookAt w bb ab mb nn vs vf v0 v1 rs fr S):
  Calls Tryz.prog 276 #[.pointer (some ⟨bb,0,none⟩),.int .i64 s,o.agg] w fun e W'=>e=.returned (.int .i64 (eU0 o ((S s).map Ly.o)))∧Below w.heap.size w W':=by
 refine (callsIn_wide (n:=4)).1 ?_;unfold Ord.agg;refine callsIn_of_wp_marks Tryz.func276 rfl trivial ?_ rfl;simp only [Tryz.ntmps276,List.size_toArray,List.length_cons,List.length_nil,Nat.reduceAdd,Nat.reduceSub,Array.replicate_succ,Array.replicate_zero,List.push_toArray,List.append_toArray,List.nil_append,List.cons_append]
 gi_wp2_with fail
 refine ⟨trivial,(callsIn_wide.2 (nK0 bb _ _)).mono ?_⟩;rintro e w' ⟨rfl,rfl⟩
 gi_wp2_with fail
 have hB1:=bel2 w (.cells #[.int .i64 o.id,.int .i64 o.side,.int .i64 o.kind,.int .i64 o.price,.int .i64 o.qty] 92) (.cells #[.int .i64 0] 3);have bO:=eG0 w (.cells #[.int .i64 o.id,.int .i64 o.side,.int .i64 o.kind,.int .i64 o.price,.int .i64 o.qty] 92) (.cells #[.int .i64 0] 3);have bN:=dK0 w (.cells #[.int .i64 o.id,.int .i64 o.side,.int .i64 o.kind,.int .i64 o.price,.int .i64 o.qty] 92) (.cells #[.int .i64 0] 3);obtain ⟨w2,hw2⟩:∃w2,(w.alloc (.cells #[.int .i64 o.id,.int .i64 o.side,.int .i64 o.kind,.int .i64 o.price,.int .i64 o.qty] 92)).alloc (.cells #[.int .i64 0] 3)=w2:=⟨_,rfl⟩;have hz2:w2.heap.size=w.heap.size+2:=by rw [←hw2];simp
 rw [hw2] at hB1 bO bN ⊢;clear hw2;have hB2:=bel2 w2 (.cells #[.pointer (some ⟨bb,0,none⟩)] 161) (.cells #[.int .i64 s] 3);have bB:=eG0 w2 (.cells #[.pointer (some ⟨bb,0,none⟩)] 161) (.cells #[.int .i64 s] 3);have bS:=dK0 w2 (.cells #[.pointer (some ⟨bb,0,none⟩)] 161) (.cells #[.int .i64 s] 3);obtain ⟨W0,hW0⟩:∃W0,(w2.alloc (.cells #[.pointer (some ⟨bb,0,none⟩)] 161)).alloc (.cells #[.int .i64 s] 3)=W0:=⟨_,rfl⟩;have hsz:W0.heap.size=w.heap.size+4:=by rw [←hW0];simp;omega
 rw [hW0] at hB2 bB bS ⊢;clear hW0;have bO:=aD0 bO hB2 lR7;have bN:=aD0 bN hB2 lR7;have hB0:Below w.heap.size w W0:=aC0 hB1 hB2;rw [hz2] at bB bS;have HK:∀k,pbB bb ab mb vs vf v0 v1 k→k<w.heap.size:=fun k hk=>hB.lt hk
 clear hB1 hB2
 refine wpIn_rangeFunc_ownH (F:=Fence.wide) (n:=4) rfl (by decide) (gf:=254) (lb:=#[.pointer (some ⟨w.heap.size+2,0,none⟩),.pointer (some ⟨w.heap.size+2+1,0,none⟩)]) rfl trivial (enters_of Tryz.func254 (by kernel_rfl) rfl)
  (nQ1 3 (by decide) (w.heap.size+2) (w.heap.size+2+1) w.heap.size bb ab mb nn s vs vf v0 v1 rs fr S hs hlen hth HK W0 (by omega) (hB.below hB0 lR7) bB bS) nO1 (nP1 (by omega)) (Below.refl _ _) (fun _=>rfl)
  (fun pre W=>(cP0 W w.heap.size o∧W.heap[w.heap.size+1]? = some (.cells #[.int .i64 pre.length] 3 (0,0))∧(∀y∈pre,cQ0 o y=false))∧Below w.heap.size w W)
  (fun c pre W=>(c=.exit 0∧∃p x,pre=p++[x]∧(∀y∈p,cQ0 o y=false)∧cQ0 o x=true∧W.heap[w.heap.size+1]? = some (.cells #[.int .i64 p.length] 3 (0,0)))∧Below w.heap.size w W)
  (OwnFrom.and (Own.from (fun s A B row hs hg hr=>⟨eO0 hs.1 hg hr,eO0 hs.2.1 hg hr,hs.2.2⟩) _) (ownFrom_below lR7 (by omega)))
  (fun c=>OwnFrom.and (Own.from (fun s A B row hs hg hr=>by obtain ⟨g0,p,x,g1,g2,g3,g4⟩:=hs;exact ⟨g0,p,x,g1,g2,g3,eO0 g4 hg hr⟩) _) (ownFrom_below lR7 (by omega)))
  ⟨⟨bO,bN,fun y hy=>by cases hy⟩,hB0⟩
  (fun x a' W=>∃Bx,cP0 W Bx x∧a'={ tmps:=#[.pointer (some ⟨bb,0,none⟩),.int .i64 s,Ord.agg o,undef,undef,.pointer (some ⟨w.heap.size,0,none⟩),.int .i64 0,.pointer (some ⟨w.heap.size+1,0,none⟩),.pointer (some ⟨Bx,0,none⟩),.pointer (some ⟨bb,0,none⟩),.int .i64 s,.func (.func 254) #[] #[.pointer (some ⟨w.heap.size+2,0,none⟩),.pointer (some ⟨w.heap.size+2+1,0,none⟩)],Ord.agg x,undef,undef,undef,undef,undef,undef],defers:=[] })
  (fun x a' _ X Y row hs hg hr=>by obtain ⟨Bx,h2,h3⟩:=hs;exact ⟨Bx,eO0 h2 hg (fun r e=>(hr r e).2),h3⟩)
  ?assign ?body ?done ?stop
 case assign=>
  rintro l pre x W K ⟨⟨h1,h2,h3⟩,hBW⟩ hK;have lS:=hBW.size;unfold Ord.agg at hK ⊢
  gi_wp2
  refine hK _ _ ((KeepsOthers.alloc _ _).from _) (KpL.of_below (bel1 _ _) lS) ⟨⟨aD0 h1 (bel1 _ _) lR7,aD0 h2 (bel1 _ _) lR7,h3⟩,hBW.alloc hBW.size _⟩ ⟨W.heap.size,heap_alloc_new _ _,rfl⟩
 case body=>
  rintro l pre x a' W hl ⟨r,hr⟩ ⟨⟨h1,h2,h3⟩,hBW⟩ ⟨Bx,bX,rfl⟩ hlt;have c0:=aA0 (j:=0) bX rfl;have c1:=aA0 (j:=1) bX rfl;have c2:=aA0 (j:=2) bX rfl;have c3:=aA0 (j:=3) bX rfl;have c4:=aA0 (j:=4) bX rfl;have d0:=aA0 (j:=0) h1 rfl;have d1:=aA0 (j:=1) h1 rfl;have d2:=aA0 (j:=2) h1 rfl;have d3:=aA0 (j:=3) h1 rfl;have d4:=aA0 (j:=4) h1 rfl;have H1:Hid _:=h1;have H2:Hid _:=h2;have HBW:Hid (Below w.heap.size w W):=hBW;clear h1 h2 hBW bX hr;unfold Ord.agg
  gi_wp2_with fail
  refine ⟨trivial,(CallsIn.inRound l (callsIn_wide.2 (zW0 o x _))).mono ?_⟩;rintro e W1 ⟨rfl,hb1⟩;have hn1:=aD0 H2.out hb1 lR7;have e0:=aA0 (j:=0) hn1 rfl;have e1:=aB0 (j:=0) hn1;cases hbt:cQ0 o x with
  | true=>
   gi_wp2_with fail
   exact ⟨(nL0 hb1).from _,⟨rfl,pre,x,rfl,h3,hbt,hn1⟩,HBW.out.trans (hb1.mono HBW.out.size)⟩
  | false=>
   gi_wp2_with fail
   have ho1:=aD0 H1.out hb1 lR7;refine ⟨((nL0 hb1).trans (KeepsOthers.setCell _ _ _)).from _,⟨(hb1.mono HBW.out.size).setCell (p:=⟨w.heap.size+1,0,none⟩) (by simp) _,fun vs t e=>?_⟩,⟨aE0 ho1 (aN0 _ ⟨w.heap.size+1,0,none⟩ _) (by simp),?_,fun y hy=>?_⟩,(HBW.out.trans (hb1.mono HBW.out.size)).setCell (p:=⟨w.heap.size+1,0,none⟩) (by simp) _⟩
   ·exact aE0 (aD0 e hb1 lR7) (aN0 _ ⟨w.heap.size+1,0,none⟩ _) (by simp)
   ·rw [List.length_append];exact aH0 (j:=0) _ hn1
   ·rcases List.mem_append.1 hy with hy | hy
    ·exact h3 y hy
    ·simp at hy;subst hy;exact hbt
 case done=>
  rintro D ys W hD rfl ⟨⟨h1,h2,h3⟩,hBW⟩ hK;have hc:=aA0 (j:=0) h2 rfl
  gi_wp2
  refine ⟨by simp,.inl ⟨_,_,rfl,run_takeDeferred hK,?_⟩⟩;exact ⟨_,results_tmp rfl _ _ _,by rw [cD1 h3,List.length_map];rfl,hBW.trans (belowK_b (w:=w) lR7 W D _ _ (by omega) hK rfl rfl)⟩
 case stop=>
  rintro D c pre W hD hpre ⟨⟨rfl,p,x,rfl,h1,h2,h3⟩,hBW⟩ hK;have hc:=aA0 (j:=0) h3 rfl
  gi_wp2
  refine ⟨by simp,.inl ⟨_,_,rfl,run_takeDeferred hK,?_⟩⟩;exact ⟨_,results_tmp rfl _ _ _,by rw [zV0 hpre h1 h2];rfl,hBW.trans (belowK_b (w:=w) lR7 W D _ _ (by omega) hK rfl rfl)⟩
end Go.Proofs.YtaelphbianmckaaGreatDoor
namespace Go.Proofs.YtaelphbianmckaaGreatDoor
open Go.RowKit Go.Shelf
theorem gF0 {P:Program} (W:World) (dT sT ty elem:TypeId) (g o dLen dCap:Nat) (a:Addr) (sLen sCap:Nat) (cur:Array Value) (t:TypeId) (cs:List Value) (k:Nat)
  (hu:P.underlying dT=some (.slice elem)) (hs:(P.info? elem).map (·.size)=some 2) (hg:W.heap[g]? = some (.cells cur t (0,0))) (hk:Nat.min sLen dLen=k) (hn:cs.length=k*2)
  (hsrc:∀j v,cs[j]? = some v→W.cell? (a.add j)=some v) (hfit:o+cs.length≤cur.size) (h1:∀v∈cs,v.oneCell'=true):
  ∃W',(Builtin.copy_ #[dT,sT] ty #[.slice (some ⟨g,o,none⟩) dLen dCap,.slice (some a) sLen sCap]).run P W=.ok (goInt k) W'
   ∧W'.heap[g]? = some (.cells (cur.toList.take o++cs++cur.toList.drop (o+cs.length)).toArray t (0,0))∧Out (fun j=>j=g) W W':=by
 refine ⟨W.setRow g (cur.toList.take o++cs++cur.toList.drop (o+cs.length)).toArray,?_,setRow_heap W g _ _ t _ hg,⟨rfl,rfl,rfl,by simp [World.setRow],fun j _ hj=>setRow_other W g j _ hj⟩⟩;have hst:=run_storeCells_at P g o t cs 0 cur W hg (by simpa using hfit) h1;cases hq:P.info? elem with
 | none=>simp [hq] at hs
 | some i=>
  have hi:i.size=2:=by simpa [hq] using hs
  have hl:=run_firstCells_some (P:=P) W 2 k a sLen sCap cs hn hsrc;simp [Builtin.copy_,run_underlying hu,Builtin.lenOf,sizeOf,typeInfo,hq,hi,hk,hl,hst]
theorem Tryz.infoH:(Tryz.prog.info? 240).map (fun i=>(i.zero,i.size,i.bytes))=some (some (.agg #[.int .i64 0,.int .i64 0]),2,16):=by kernel_rfl
theorem Tryz.sizeH:(Tryz.prog.info? 240).map (·.size)=some 2:=by kernel_rfl
theorem Tryz.sizeOfH (w:World):(Go.sizeOf 240).run Tryz.prog w=.ok 2 w:=by kernel_rfl
def cZ0 (i:Nat) (x:Ly) (l:List Ly):List Ly:=l.take i++x::l.drop i
theorem mA0 {i:Nat} (x:Ly) {l:List Ly} (h:i≤l.length):(cZ0 i x l).length=l.length+1:=by simp [cZ0];omega
theorem xQ0 (i:Nat) (x:Ly) (l:List Ly):hV (cZ0 i x l)=hV (l.take i)++(.int .i64 x.slot::.int .i64 x.age::hV (l.drop i)):=by unfold cZ0;rw [nE0];rfl
theorem cE1 (x:Ly) (l:List Ly):cZ0 l.length x l=l++[x]:=by simp [cZ0]
theorem mP0 (i:Nat) (l:List Ly):hV l=hV (l.take i)++hV (l.drop i):=by rw [←nE0,List.take_append_drop]
theorem nS1 {i:Nat} {l:List Ly} (h:i≤l.length):(hV l).take (i*2)=hV (l.take i):=by
 rw [mP0 i l,List.take_append_of_le_length (by rw [dU0,List.length_take];omega),List.take_of_length_le (by rw [dU0,List.length_take];omega)]
def lC0 (w W':World) (ob:Option Nat) (v':Value) (l':List Ly):Prop:=
 ∃g cap,v'=.slice (some ⟨g,0,none⟩) l'.length cap∧W'.ownsRow 0 240 2 v' l'.length (hV l')∧Out (fun k=>ob=some k) w W'∧(ob=some g∨w.heap.size≤g)
set_option maxRecDepth 100000 in
set_option maxHeartbeats 4000000 in
theorem zX0 (vb:Nat) (v:Value) (l:List Ly) (x:Ly) (w:World) (hr:w.ownsRow 0 240 2 v l.length (hV l)) (hl:l.length≤1000) (hvb:w.heap[vb]? = some (.cells #[.int .i64 x.slot,.int .i64 x.age] 240 (0,0))):
  Calls Tryz.prog 275 #[v,.int .i64 l.length,.slice (some ⟨vb,0,none⟩) 1 1] w fun e W'=>∃v',e=.returned v'∧lC0 w W' v.ownBlock v' (l++[x]):=by
 obtain ⟨i0,hi,hz0,hz1,hz2⟩:=info_parts Tryz.infoH;obtain ⟨ao,cap,rfl,hcap,hcm⟩:=aY0 hr;have HR:Hid (w.ownsRow 0 240 2 (.slice ao l.length cap) l.length (hV l)):=hr;obtain ⟨ob,hob⟩:∃ob,(Value.slice ao l.length cap).ownBlock=ob:=⟨_,rfl⟩;rw [hob];have HOB:Hid ((Value.slice ao l.length cap).ownBlock=ob):=hob;clear hr hob;have q1:(0:Int)≤(l.length:Int):=by omega
 have q2:l.length≤cap:=hcap;go_enter Tryz.func275,Tryz.ntmps275;go_wp2_with (at_builtin;refine wpList_append_lies _ rfl _ _ 230 rfl 0 240 i0 (.agg #[.int .i64 0,.int .i64 0]) 2 16 Tryz.underlying230 hi hz0 hz1 hz2 rfl (by decide) (.slice ao l.length cap) l.length (hV l) rfl HR.out ⟨vb,0,none⟩ 1 1 [.int .i64 x.slot,.int .i64 x.age] rfl rfl (World.news_of_block (cs:=#[.int .i64 x.slot,.int .i64 x.age]) (t:=240) (fr:=(0,0)) hvb) (by simp [Value.oneCell']) (by decide) (by unfold maxLen;omega) (by omega) (Nat.zero_le _) w.heap.size rfl ?_;intro g cg w1 hown hgrow hat hlt)
 all_goals go_ret
 all_goals refine ⟨_,rfl,g,cg,by rw [List.length_append];rfl,?_,Out.of_grown hgrow (fun k hk=>HOB.out ▸ hk),(HOB.out ▸ hat).imp id (fun e=>by omega)⟩
 all_goals rw [List.length_append,List.length_singleton,nE0]
 all_goals exact hown
theorem iJ1 {A B C:List Value} (x0 x1:Value) (hC:2≤C.length):
  (((A++(B++C)).take (A.length+2)++B++(A++(B++C)).drop (A.length+2+B.length)).take A.length++[x0,x1]++((A++(B++C)).take (A.length+2)++B++(A++(B++C)).drop (A.length+2+B.length)).drop (A.length+2))=A++(x0::x1::(B++C.drop 2)):=by
 have h1:(A++(B++C)).take (A.length+2)=A++(B++C).take 2:=by
  rw [List.take_append,List.take_of_length_le (by omega)]
  congr 2;omega
 have h2:(A++(B++C)).drop (A.length+2+B.length)=C.drop 2:=by
  rw [List.drop_append,List.drop_of_length_le (by omega),List.nil_append,List.drop_append,List.drop_of_length_le (by omega),List.nil_append]
  congr 1;omega
 have h3:((B++C).take 2).length=2:=by simp;omega
 rw [h1,h2];generalize (B++C).take 2=T at h3;simp only [List.append_assoc];rw [List.take_left',List.drop_append,List.drop_of_length_le (by omega),List.nil_append]
 ·rw [show A.length+2 - A.length=T.length by omega,List.drop_left];rfl
 ·rfl
set_option maxRecDepth 100000 in
set_option maxHeartbeats 4000000 in
theorem vI0 (vb g cap i:Nat) (l:List Ly) (x:Ly) (w:World) (hr:w.ownsRow 0 240 2 (.slice (some ⟨g,0,none⟩) l.length cap) l.length (hV l)) (hl:l.length≤1000) (hi:i<l.length) (hroom:l.length+1≤cap)
  (hvb:w.heap[vb]? = some (.cells #[.int .i64 x.slot,.int .i64 x.age] 240 (0,0))) (hne:vb≠g):
  Calls Tryz.prog 275 #[.slice (some ⟨g,0,none⟩) l.length cap,.int .i64 i,.slice (some ⟨vb,0,none⟩) 1 1] w fun e W'=>∃v',e=.returned v'∧lC0 w W' (some g) v' (cZ0 i x l):=by
 rcases hr.2 with ⟨h',_⟩ | ⟨g',cap',cur,h',_,hg,hnc,hcm,hcs,ht⟩
 ·simp at h'
 simp only [Value.slice.injEq,Option.some.injEq,Addr.mk.injEq,and_true,true_and] at h';obtain ⟨rfl,rfl⟩:=h';clear hr;unfold maxLen at hcm
 have hcut:cur.toList=hV (l.take i)++(hV (l.drop i)++cur.toList.drop (l.length*2)):=by
  rw [←List.append_assoc,←mP0,←ht,List.take_append_drop]
 have hA:(hV (l.take i)).length=i*2:=by rw [dU0,List.length_take];omega
 have hBl:(hV (l.drop i)).length=(l.length - i)*2:=by rw [dU0,List.length_drop]
 have hCl:(cur.toList.drop (l.length*2)).length=(cap - l.length)*2:=by rw [List.length_drop,Array.length_toList,hcs];omega
 have hsa:w.shape? vb=some (240,2):=by simp [World.shape?,hvb]
 have hsb:w.shape? g=some (240,cap*2):=by simp [World.shape?,hg,hcs]
 have hov:∀lb cb,(callFunc 291 #[.slice (some ⟨vb,0,none⟩) 1 1,.slice (some ⟨g,(i+1)*2,none⟩) lb cb]).run Tryz.prog w=.ok (.value (.bool false)) w:=fun lb cb=>by
  rw [run_callFunc_extern Tryz.func291 (by kernel_rfl) (by kernel_rfl) (by kernel_rfl) (e:=Extern.SlicesOverlaps.overlaps #[230,230] #[4]) (by kernel_rfl),
   Lib.run_overlaps_apart w 230 4 240 Tryz.underlying230 2 Tryz.sizeOfH ⟨vb,0,none⟩ ⟨g,(i+1)*2,none⟩ 1 1 lb cb hne 240 240 2 (cap*2) hsa hsb (by omega) (aB0 hvb) (aB0 hvb)]
  rfl
 have hsrc:∀j u,(hV (l.drop i))[j]? = some u→w.drew.cell? ((⟨g,i*2,none⟩:Addr).add j)=some u:=fun j u hj=>by
  rw [Addr.add_lit];refine aA0 (w:=w) hg ?_;rw [←Array.getElem?_toList,hcut,List.getElem?_append_right (by omega),hA,show i*2+j - i*2=j by omega,List.getElem?_append_left (by have:=(List.getElem?_eq_some_iff.1 hj).1;omega)];exact hj
 obtain ⟨W1,hr1,hg1,ho1⟩:=gF0 (P:=Tryz.prog) w.drew 230 230 3 240 g ((i+1)*2) (l.length+1 - (i+1)) (cap - (i+1)) ⟨g,i*2,none⟩ (l.length+1 - i) (cap - i) cur 240 (hV (l.drop i)) (l.length - i)
  Tryz.underlying230 Tryz.sizeH hg (by simp only [Nat.min_def];split <;> omega) hBl hsrc (by rw [hBl,hcs];omega) (mD1 _)
 have hvb1:W1.heap[vb]? = some (.cells #[.int .i64 x.slot,.int .i64 x.age] 240 (0,0)):=aE0 (w:=w.drew) hvb ho1 hne;generalize hcur1:(cur.toList.take ((i+1)*2)++hV (l.drop i)++cur.toList.drop ((i+1)*2+(hV (l.drop i)).length)).toArray=cur1 at hg1
 have hcz:cur1.size=cap*2:=by
  rw [←hcur1];simp [hBl];omega
 obtain ⟨W2,hr2,hg2,ho2⟩:=gF0 (P:=Tryz.prog) W1 230 230 3 240 g (i*2) (l.length+1 - i) (cap - i) ⟨vb,0,none⟩ 1 1 cur1 240 [.int .i64 x.slot,.int .i64 x.age] 1
  Tryz.underlying230 Tryz.sizeH hg1 (by simp only [Nat.min_def];split <;> omega) rfl (World.news_of_block (cs:=#[.int .i64 x.slot,.int .i64 x.age]) (t:=240) (fr:=(0,0)) hvb1) (by rw [hcz];simp;omega) (by simp [Value.oneCell'])
 have HFIN:Hid (lC0 w W2 (some g) (.slice (some ⟨g,0,none⟩) (l.length+1) cap) (cZ0 i x l)):=by
  have hlen:=mA0 x (Nat.le_of_lt hi);refine ⟨g,cap,by rw [hlen],⟨by rw [dU0],Or.inr ⟨g,cap,_,by rw [hlen],Nat.zero_le _,hg2,by omega,by unfold maxLen;omega,?_,?_⟩⟩,?_,Or.inl rfl⟩
  ·simp [hcz];omega
  ·have hrow:=iJ1 (A:=hV (l.take i)) (B:=hV (l.drop i)) (C:=cur.toList.drop (l.length*2)) (.int .i64 x.slot) (.int .i64 x.age) (by omega);rw [←hcut,hA,show i*2+2=(i+1)*2 by omega,show cur.toList.take ((i+1)*2)++hV (l.drop i)++cur.toList.drop ((i+1)*2+(hV (l.drop i)).length)=cur1.toList by rw [←hcur1]] at hrow;rw [show i*2 + [Value.int .i64 x.slot,Value.int .i64 x.age].length=(i+1)*2 by simp;omega];dsimp only;rw [hrow,xQ0,hlen,List.take_append,List.take_of_length_le (by omega),hA,show (l.length+1)*2 - i*2=(hV (l.drop i)).length+1+1 by omega,List.take_succ_cons,List.take_succ_cons,List.take_left]
  ·exact (Out.of_below (Below.refl w.heap.size w).drew lR7).trans ((ho1.mono (fun j hj=>by rw [hj])).trans (ho2.mono (fun j hj=>by rw [hj])) (Went.refl _ _)) (Went.refl _ _)
 clear hg1 hg2 ho1 ho2 hsrc hcut hA hBl hCl hsa hsb hcur1 hcz hvb1 hg hcs ht;have q0:IntKind.i64.wrap ((i:Int)+1)=(i:Int)+1:=IntWalk.i64_in _ (by omega);have q1:(0:Int)≤(i:Int)+1:=by omega
 have q2:i≤l.length:=by omega
 have q3:((i:Int)+1).toNat=i+1:=by omega
 have q4:¬(cap=i+1):=by omega
 have q5:(i:Int)≤(l.length:Int)+1:=by omega
 have q6:¬(cap=i):=by omega
 have q7:((i:Int) == (l.length:Int))=false:=beq_eq_false_iff_ne.2 (by omega);go_enter Tryz.func275,Tryz.ntmps275;go_wp2_with (simp only [hov]);go_region_law (refine step_copy_runI rfl _ _ 230 230 rfl _ _ (by simp [Act.eval,Act.put]) (by simp [Act.eval,Act.put]) hr1 ?_);go_wp2_with (at_builtin;refine wpList_copy_runI _ rfl _ _ 230 230 rfl _ _ rfl rfl hr2 ?_);go_ret;exact ⟨_,rfl,HFIN.out⟩
theorem xR0 (n:Nat):(Builtin.zeroCells (Value.agg #[.int .i64 0,.int .i64 0]).cells n).toList.length=n*2:=by
 simp [Builtin.zeroCells,Value.cells]
theorem iK1 {A B Z:List Value} (x0 x1:Value):
  (((A++Z).take A.length++[x0,x1]++(A++Z).drop (A.length+2)).take (A.length+2)++B++((A++Z).take A.length++[x0,x1]++(A++Z).drop (A.length+2)).drop (A.length+2+B.length))=A++(x0::x1::(B++Z.drop (2+B.length))):=by
 have h1:(A++Z).take A.length++[x0,x1]++(A++Z).drop (A.length+2)=A++[x0,x1]++Z.drop 2:=by
  rw [List.take_left,List.drop_append,List.drop_of_length_le (by omega),List.nil_append]
  congr 2;omega
 rw [h1,List.take_left' (by simp),List.drop_append,List.drop_of_length_le (by simp),List.nil_append,List.drop_drop];simp
set_option maxRecDepth 100000 in
set_option maxHeartbeats 4000000 in
theorem vJ0 (vb g cap i:Nat) (l:List Ly) (x:Ly) (w:World) (hr:w.ownsRow 0 240 2 (.slice (some ⟨g,0,none⟩) l.length cap) l.length (hV l)) (hl:l.length≤1000) (hi:i<l.length) (hroom:cap<l.length+1)
  (hvb:w.heap[vb]? = some (.cells #[.int .i64 x.slot,.int .i64 x.age] 240 (0,0))):
  Calls Tryz.prog 275 #[.slice (some ⟨g,0,none⟩) l.length cap,.int .i64 i,.slice (some ⟨vb,0,none⟩) 1 1] w fun e W'=>∃v',e=.returned v'∧lC0 w W' (some g) v' (cZ0 i x l):=by
 obtain ⟨i0,hi0,hz0,hzs,hzb⟩:=info_parts Tryz.infoH;rcases hr.2 with ⟨h',_⟩ | ⟨g',cap',cur,h',_,hg,hnc,hcm,hcs,ht⟩
 ·simp at h'
 simp only [Value.slice.injEq,Option.some.injEq,Addr.mk.injEq,and_true,true_and] at h';obtain ⟨rfl,rfl⟩:=h';clear hr;obtain rfl:cap=l.length:=by omega
 have hcut:cur.toList=hV l:=by
  rw [←ht,List.take_of_length_le (by rw [Array.length_toList,hcs];omega)]
 have hA:(hV (l.take i)).length=i*2:=by rw [dU0,List.length_take];omega
 have hBl:(hV (l.drop i)).length=(l.length - i)*2:=by rw [dU0,List.length_drop]
 have hold:(Builtin.firstCells i0.size i (.slice (some ⟨g,0,none⟩) i l.length)).run Tryz.prog w.drew=.ok (hV (l.take i)).toArray w.drew:=by
  rw [hzs]
  exact run_firstCells_some w.drew 2 i ⟨g,0,none⟩ i l.length (hV (l.take i)) hA (fun j v hj=>by
   rw [Addr.add_lit];refine aA0 (w:=w) hg ?_;rw [←Array.getElem?_toList,hcut,mP0 i l,Nat.zero_add,List.getElem?_append_left (List.getElem?_eq_some_iff.1 hj).1];exact hj)
 have hkk:(l.length:Int)+1 - (i:Int)=((l.length+1 - i:Nat):Int):=by omega
 have hik:i+(l.length+1 - i)=l.length+1:=by omega
 have hrz:=Lib.run_append_grow_zeros w 230 3 230 240 i0 _ .i64 .i64 Tryz.underlying230 Tryz.underlying3 hi0 hz0 (some ⟨g,0,none⟩) i l.length (hV (l.take i)) hold (l.length+1 - i) (by omega) (by rw [hzs];decide) (by omega) (by omega) (by rw [hzb];omega) (by rw [hzb,hik];exact growslice_fits (by omega) (by omega));rw [hik,←hkk] at hrz;have hGn:=grownCap_ge w (l.length+1) l.length 240;have hGm:=grownCap_le_maxLen w (l.length+1) l.length 240 (by unfold maxLen;omega);generalize grownCap w (l.length+1) l.length 240=G at hrz hGn hGm;generalize hrow:(hV (l.take i)).toArray++Builtin.zeroCells (Value.agg #[.int .i64 0,.int .i64 0]).cells (l.length+1 - i)++Builtin.zeroCells (Value.agg #[.int .i64 0,.int .i64 0]).cells (G - (l.length+1))=ROW at hrz
 have hRL:∃Z:List Value,ROW.toList=hV (l.take i)++Z∧Z.length=(G - i)*2:=by
  refine ⟨(Builtin.zeroCells (Value.agg #[.int .i64 0,.int .i64 0]).cells (l.length+1 - i)).toList++(Builtin.zeroCells (Value.agg #[.int .i64 0,.int .i64 0]).cells (G - (l.length+1))).toList,?_,?_⟩
  ·rw [←hrow];simp
  ·rw [List.length_append,xR0,xR0];omega
 obtain ⟨Z,hRZ,hZl⟩:=hRL
 have hRs:ROW.size=G*2:=by
  rw [←Array.length_toList,hRZ,List.length_append,hA,hZl];omega
 clear hrow hold;have hgN:(w.drew.alloc (.cells ROW 240)).heap[w.heap.size]? = some (.cells ROW 240 (0,0)):=heap_alloc_new w.drew _;have hbN:Below w.heap.size w (w.drew.alloc (.cells ROW 240)):=(Below.refl w.heap.size w).drew.alloc lR7 _;generalize w.drew.alloc (.cells ROW 240)=WN at hrz hgN hbN;have lvb:=lt_of_block hvb;have lg:=lt_of_block hg
 obtain ⟨W1,hr1,hg1,ho1⟩:=gF0 (P:=Tryz.prog) WN 230 230 3 240 w.heap.size (i*2) (l.length+1 - i) (G - i) ⟨vb,0,none⟩ 1 1 ROW 240 [.int .i64 x.slot,.int .i64 x.age] 1
  Tryz.underlying230 Tryz.sizeH hgN (by simp only [Nat.min_def];split <;> omega) rfl (World.news_of_block (cs:=#[.int .i64 x.slot,.int .i64 x.age]) (t:=240) (fr:=(0,0)) (aD0 hvb hbN lR7)) (by rw [hRs];simp only [List.length_cons,List.length_nil];omega) (by simp [Value.oneCell'])
 generalize hcur1:(ROW.toList.take (i*2)++[Value.int .i64 x.slot,Value.int .i64 x.age]++ROW.toList.drop (i*2 + [Value.int .i64 x.slot,Value.int .i64 x.age].length)).toArray=cur1 at hg1
 have hcz:cur1.size=G*2:=by
  rw [←hcur1];simp only [List.size_toArray,List.length_append,List.length_take,List.length_drop,hRZ,hA,hZl,List.length_cons,List.length_nil];omega
 have hgW:W1.heap[g]? = some (.cells cur 240 (0,0)):=aE0 (w:=WN) (b:=g) (aD0 hg hbN lR7) ho1 (fun e=>by have e':g=w.heap.size:=e;omega);have hg':W1.drew.heap[g]? = some (.cells cur 240 (0,0)):=hgW
 have hsrc:∀j u,(hV (l.drop i))[j]? = some u→W1.drew.cell? ((⟨g,i*2,none⟩:Addr).add j)=some u:=fun j u hj=>by
  rw [Addr.add_lit];refine aA0 hg' ?_;rw [←Array.getElem?_toList,hcut,mP0 i l,List.getElem?_append_right (by omega),hA,show i*2+j - i*2=j by omega];exact hj
 obtain ⟨W2,hr2,hg2,ho2⟩:=gF0 (P:=Tryz.prog) W1.drew 230 230 3 240 w.heap.size ((i+1)*2) (l.length+1 - (i+1)) (G - (i+1)) ⟨g,i*2,none⟩ (l.length - i) (l.length - i) cur1 240 (hV (l.drop i)) (l.length - i)
  Tryz.underlying230 Tryz.sizeH hg1 (by simp only [Nat.min_def];split <;> omega) hBl hsrc (by rw [hBl,hcz];omega) (mD1 _)
 have HFIN:Hid (lC0 w W2 (some g) (.slice (some ⟨w.heap.size,0,none⟩) (l.length+1) G) (cZ0 i x l)):=by
  have hlen:=mA0 x (Nat.le_of_lt hi);refine ⟨w.heap.size,G,by rw [hlen],⟨by rw [dU0],Or.inr ⟨w.heap.size,G,_,by rw [hlen],Nat.zero_le _,hg2,by omega,hGm,?_,?_⟩⟩,?_,Or.inr lR7⟩
  ·simp [hcz,hBl];omega
  ·have hrow:=iK1 (A:=hV (l.take i)) (B:=hV (l.drop i)) (Z:=Z) (.int .i64 x.slot) (.int .i64 x.age);rw [←hRZ,hA,show i*2+2=(i+1)*2 by omega,show ROW.toList.take (i*2)++[Value.int .i64 x.slot,Value.int .i64 x.age]++ROW.toList.drop ((i+1)*2)=cur1.toList by rw [←hcur1];simp;omega] at hrow;dsimp only;rw [hrow,xQ0,hlen,List.take_append,List.take_of_length_le (by omega),hA,show (l.length+1)*2 - i*2=(hV (l.drop i)).length+1+1 by omega,List.take_succ_cons,List.take_succ_cons,List.take_left]
  ·have o1:Out (fun k=>k=w.heap.size) WN W2:=ho1.trans ((Out.of_below (Below.refl W1.heap.size W1).drew lR7).trans ho2 (Went.refl _ _)) (Went.refl _ _);exact (Out.of_below hbN lR7).trans o1 (fun k hk=>Or.inr (by omega))
 clear hg1 hg2 ho1 ho2 hsrc hcut hA hBl hcur1 hcz hg hcs ht hg' hgW hgN hbN hRZ hZl hRs hkk hik;have q0:IntKind.i64.wrap ((i:Int)+1)=(i:Int)+1:=IntWalk.i64_in _ (by omega);have q1:(0:Int)≤(i:Int)+1:=by omega
 have q2:i≤l.length:=by omega
 have q3:((i:Int)+1).toNat=i+1:=by omega
 have q4:¬(G=i+1):=by omega
 have q5:(i:Int)≤(l.length:Int):=by omega
 have q6:¬(G=i):=by omega
 have q7:((i:Int) == (l.length:Int))=false:=beq_eq_false_iff_ne.2 (by omega);have q8:¬(l.length=i):=by omega
 go_enter Tryz.func275,Tryz.ntmps275
 go_wp2_with (first
  | (at_builtin;refine Lib.wpList_append_run _ rfl _ _ _ _ rfl _ _ rfl rfl _ _ hrz ?_)
  | (at_builtin;refine wpList_copy_runI _ rfl _ _ 230 230 rfl _ _ rfl rfl hr1 ?_))
 go_region_law (refine step_copy_runI rfl _ _ 230 230 rfl _ _ (by simp [Act.eval,Act.put]) (by simp [Act.eval,Act.put]) hr2 ?_);go_wp2;go_ret;exact ⟨_,rfl,HFIN.out⟩
theorem zY0 (vb i:Nat) (v:Value) (l:List Ly) (x:Ly) (w:World) (hr:w.ownsRow 0 240 2 v l.length (hV l)) (hl:l.length≤1000) (hi:i≤l.length)
  (hvb:w.heap[vb]? = some (.cells #[.int .i64 x.slot,.int .i64 x.age] 240 (0,0))) (hne:v.ownBlock≠some vb):
  Calls Tryz.prog 275 #[v,.int .i64 i,.slice (some ⟨vb,0,none⟩) 1 1] w fun e W'=>∃v',e=.returned v'∧lC0 w W' v.ownBlock v' (cZ0 i x l):=by
 by_cases h1:i=l.length
 ·subst h1;rw [cE1];exact zX0 vb v l x w hr hl hvb
 ·obtain ⟨g,cap,rfl,_,_⟩:=hr.form (by omega);have hg:vb≠g:=fun e=>hne (by rw [e];rfl)
  by_cases h2:l.length+1≤cap
  ·exact vI0 vb g cap i l x w hr hl (by omega) h2 hvb hg
  ·exact vJ0 vb g cap i l x w hr hl (by omega) (by omega) hvb
end Go.Proofs.YtaelphbianmckaaGreatDoor
namespace Go.Proofs.YtaelphbianmckaaGreatDoor
open Go.RowKit
def inB (lo hi z:Int):Bool:=decide (lo≤z)&& decide (z≤hi)
def jM0 (lo hi:Int):List Int→Bool
 | []=>true
 | z::r=>inB lo hi z&& jM0 lo hi r
theorem dW0 {lo hi z:Int} (h:inB lo hi z=true):lo≤z∧z≤hi:=by
 unfold inB at h;simpa using h
theorem nM0 {lo hi z:Int} (h:inB lo hi z=false):z<lo∨hi<z:=by
 unfold inB at h
 by_cases h1:lo≤z
 ·by_cases h2:z≤hi
  ·simp [h1,h2] at h
  ·exact Or.inr (by omega)
 ·exact Or.inl (by omega)
theorem nN0 {lo hi z:Int} (h:lo≤z∧z≤hi):inB lo hi z=true:=by unfold inB;simp [h.1,h.2]
theorem qP1 {lo hi z:Int} (h:z<lo∨hi<z):inB lo hi z=false:=by
 cases e:inB lo hi z with
 | false=>rfl
 | true=>have:=dW0 e;omega
theorem sP0 (lo hi z:Int):jM0 lo hi [z]=inB lo hi z:=by simp [jM0]
theorem zZ0 (lo hi:Int) (zs:List Int) (k:Nat) (h:k<zs.length) (h1:lo≤zs[k]) (h2:zs[k]≤hi):jM0 lo hi (zs.drop (k+1))=jM0 lo hi (zs.drop k):=by
 rw [List.drop_eq_getElem_cons h];simp [jM0,inB,h1,h2]
theorem pO0 (lo hi:Int) (zs:List Int) (k:Nat) (h:k<zs.length) (h1:zs[k]<lo∨hi<zs[k]):jM0 lo hi (zs.drop k)=false:=by
 rw [List.drop_eq_getElem_cons h];simp only [jM0];rw [qP1 h1];rfl
theorem cF1 (lo hi:Int) (zs:List Int) (k:Nat) (h:¬k<zs.length):jM0 lo hi (zs.drop k)=true:=by
 rw [List.drop_eq_nil_of_le (by omega)];rfl
theorem rB0 {a b:Bool} (h:a=b):Ending.returned (.bool a)=.returned (.bool b):=by rw [h]
def cG0 (p q:Int):Bool:=inB 1 1000000 p&& inB 1 1000000 q
set_option maxHeartbeats 400000 in
theorem pP0 (lo hi:Int) (b:Nat) (zs:List Int) (w:World) (hbig:zs.length≤1000)
  (hc:∀j,j<zs.length→w.cell? ⟨b,j,none⟩=some (.int .i64 (zs.getD j 0))):
  Calls Tryz.prog 136 #[.int .i64 lo,.int .i64 hi,.slice (some ⟨b,0,none⟩) zs.length zs.length] w fun e w'=>e=.returned (.bool (jM0 lo hi zs))∧w'=w:=by
 go_enter Tryz.func136,Tryz.ntmps136;go_wp2;go_loop [8,11] (fun _ i=>∃k:Nat,k≤zs.length∧i=.int .i64 k∧jM0 lo hi (zs.drop k)=jM0 lo hi zs) (fun _ i=>zs.length - (intOf i).toNat)
 case atStart=>exact ⟨0,Nat.zero_le _,rfl,rfl⟩
 case round=>
  obtain ⟨k,hk,rfl,hq⟩:=hrel;have HQ:Hid (jM0 lo hi (zs.drop k)=jM0 lo hi zs):=hq;clear hq;have hcell:k<zs.length→w.cell? ⟨b,k,none⟩=some (.int .i64 (zs.getD k 0)):=fun h=>hc k h
  go_wp2
  ·go_ret;exact ⟨rB0 (by rw [←HQ.out];exact (pO0 lo hi zs k (by assumption) (by assumption)).symm),rfl⟩
  ·go_round
   case rel=>exact ⟨k+1,by omega,by go_num,by rw [←HQ.out];exact zZ0 lo hi zs k (by assumption) (by omega) (by omega)⟩
   case measure=>simp [intOf];omega
  ·go_ret;exact ⟨rB0 (by rw [←HQ.out];exact (pO0 lo hi zs k (by assumption) (Or.inl (by assumption))).symm),rfl⟩
  ·go_ret;exact ⟨rB0 (by rw [←HQ.out];exact (cF1 lo hi zs k (by assumption)).symm),rfl⟩
set_option maxHeartbeats 400000 in
theorem aA1 (b:Nat) (zs:List Int) (w:World) (hbig:zs.length≤1000)
  (hc:∀j,j<zs.length→w.cell? ⟨b,j,none⟩=some (.int .i64 (zs.getD j 0))):
  Calls Tryz.prog 135 #[.slice (some ⟨b,0,none⟩) zs.length zs.length] w fun e w'=>e=.returned (.bool (jM0 1 1000000 zs))∧w'=w:=by
 go_enter Tryz.func135,Tryz.ntmps135;go_wp2_with fail;refine (pP0 _ _ _ zs _ hbig hc).mono ?_;rintro e w' ⟨rfl,rfl⟩;go_wp2;go_ret;exact ⟨rfl,rfl⟩
theorem lD0 (lo hi z:Int) (b:Nat) (w:World) (hc:w.cell? ⟨b,0,none⟩=some (.int .i64 z)):
  Calls Tryz.prog 136 #[.int .i64 lo,.int .i64 hi,.slice (some ⟨b,0,none⟩) 1 1] w fun e w'=>e=.returned (.bool (inB lo hi z))∧w'=w:=by
 rw [←sP0]
 exact pP0 lo hi b [z] w (by simp) (fun j hj=>by
  have:j=0:=by simp at hj;exact hj
  subst this;exact hc)
theorem gN0 (z:Int) (b:Nat) (w:World) (hc:w.cell? ⟨b,0,none⟩=some (.int .i64 z)):
  Calls Tryz.prog 135 #[.slice (some ⟨b,0,none⟩) 1 1] w fun e w'=>e=.returned (.bool (inB 1 1000000 z))∧w'=w:=by
 rw [←sP0]
 exact aA1 b [z] w (by simp) (fun j hj=>by
  have:j=0:=by simp at hj;exact hj
  subst this;exact hc)
set_option maxHeartbeats 400000 in
theorem jX0 (p q:Int) (w:World):
  Calls Tryz.prog 235 #[.int .i64 p,.int .i64 q] w fun e w'=>e=.returned (.bool (cG0 p q))∧Below w.heap.size w w':=by
 cases hp:inB 1 1000000 p with
 | false=>
  have HR:Hid (cG0 p q=false):=by unfold cG0;rw [hp];rfl
  have HP:Hid (inB 1 1000000 p=false):=hp;clear hp;go_enter Tryz.func235,Tryz.ntmps235;go_wp2_with fail;refine (gN0 p _ _ (by simp [go_sem])).mono ?_;rintro e w' ⟨rfl,rfl⟩;rw [HP.out];go_wp2_with fail;go_ret;exact ⟨by rw [HR.out];rfl,by go_grown⟩
 | true=>
  have HR:Hid (cG0 p q=inB 1 1000000 q):=by unfold cG0;rw [hp];rfl
  have HP:Hid (inB 1 1000000 p=true):=hp;clear hp;go_enter Tryz.func235,Tryz.ntmps235;go_wp2_with fail;refine (gN0 p _ _ (by simp [go_sem])).mono ?_;rintro e w' ⟨rfl,rfl⟩;rw [HP.out];go_wp2_with fail;refine (lD0 1 1000000 q _ _ (by simp [go_sem])).mono ?_;rintro e w' ⟨rfl,rfl⟩;go_wp2_with fail;go_ret;exact ⟨by rw [HR.out];rfl,by go_grown⟩
end Go.Proofs.YtaelphbianmckaaGreatDoor
namespace Go.Proofs.YtaelphbianmckaaGreatDoor
open Go.RowKit
structure BkS where
 ab:Nat
 mb:Nat
 n:Nat
 vs:Value
 vf:Value
 v0:Value
 v1:Value
 rs:List Sot
 fr:List Nat
 S:Nat→List Ly
def BkAt (w:World) (bb:Nat) (b:BkS):Prop:=BookAt w bb b.ab b.mb b.n b.vs b.vf b.v0 b.v1 b.rs b.fr b.S
def BkS.foot (bb:Nat) (b:BkS):Nat→Prop:=pbB bb b.ab b.mb b.vs b.vf b.v0 b.v1
structure Bk (w:World) (bb m:Nat) (b:BkS):Prop where
 at_:BkAt w bb b
 ok:Pb m b.rs b.fr b.S
 small:b.n≤m
 steps:m≤900000
theorem Bk.below {w w':World} {bb m B:Nat} {b:BkS} (h:Bk w bb m b) (hb:Below B w w') (hB:w.heap.size≤B):Bk w' bb m b:=⟨BookAt.below h.at_ hb hB,h.ok,h.small,h.steps⟩
theorem Bk.out {T:Nat→Prop} {w w':World} {bb m:Nat} {b:BkS} (h:Bk w bb m b) (ho:Out T w w') (hT:∀k,b.foot bb k→¬T k):Bk w' bb m b:=⟨BookAt.out h.at_ ho hT,h.ok,h.small,h.steps⟩
theorem Bk.more {w:World} {bb m m':Nat} {b:BkS} (h:Bk w bb m b) (hm:m≤m') (hs:m'≤900000):Bk w bb m' b:=⟨h.at_,h.ok.more hm,Nat.le_trans h.small hm,hs⟩
theorem Bk.lt {w:World} {bb m:Nat} {b:BkS} (h:Bk w bb m b) {k:Nat} (hk:b.foot bb k):k<w.heap.size:=BookAt.lt h.at_ hk
def Goes (w w':World) (bb m:Nat) (b b':BkS):Prop:=Bk w' bb m b'∧Out (b.foot bb) w w'∧Went w (b.foot bb) (b'.foot bb)
theorem Goes.stay {w w':World} {bb m m':Nat} {b:BkS} (h:Bk w bb m b) (hb:Below w.heap.size w w') (hm:m≤m') (hs:m'≤900000):Goes w w' bb m' b b:=⟨(h.below hb lR7).more hm hs,Out.of_below hb lR7,Went.refl _ _⟩
def BkS.none_ (k:Nat):BkS:=⟨k,k+1,0,.slice none 0 0,.slice none 0 0,.slice none 0 0,.slice none 0 0,[],[],fun _=>[]⟩
set_option maxHeartbeats 1000000 in
theorem qQ1 (w:World):Calls Tryz.prog 114 #[] w fun e W'=>e=.returned (.pointer (some ⟨w.heap.size+2,0,none⟩))∧Bk W' (w.heap.size+2) 0 (BkS.none_ w.heap.size)∧Below w.heap.size w W':=by
 have hmm:=@run_makeMap Tryz.prog;go_enter Tryz.func114,Tryz.ntmps114;go_wp2_with fail;refine (sX1 _).mono ?_;rintro e w1 ⟨rfl,rfl⟩;go_wp2;go_ret;have h1:=iF1 w 100;have hb1:=bel1 w (.cells #[.int .i64 100,.slice none 0 0,.slice none 0 0] 297);have hs1:(w.alloc (.cells #[.int .i64 100,.slice none 0 0,.slice none 0 0] 297)).heap.size=w.heap.size+1:=by simp
 generalize w.alloc (.cells #[.int .i64 100,.slice none 0 0,.slice none 0 0] 297)=w1 at h1 hb1 hs1 ⊢
 have hm:eB0 (w1.alloc (.map #[] 0)) (w.heap.size+1) 0 (fun _=>[]):=by
  have:=World.ownsMap_made (H:=Unit) w1 Tryz.prog 3 plR;rw [hs1] at this;exact ⟨_,this,(fun _ _ x hx=>(by cases hx)),fun _ _=>rfl⟩
 have hb2:=bel1 w1 (.map #[] 0);have hs2:(w1.alloc (.map #[] 0)).heap.size=w.heap.size+2:=by simp;omega
 have h2:=h1.below hb2 lR7;generalize w1.alloc (.map #[] 0)=w2 at hm hb2 hs2 h2 ⊢;have hx:=heap_alloc_new w2 (.cells #[.pointer (some ⟨w.heap.size,0,none⟩),.map (some (w.heap.size+1)),.slice none 0 0,.slice none 0 0] 233);have hb3:=bel1 w2 (.cells #[.pointer (some ⟨w.heap.size,0,none⟩),.map (some (w.heap.size+1)),.slice none 0 0,.slice none 0 0] 233);refine ⟨by rw [←hs2];rfl,?_,?_⟩
 ·refine ⟨⟨by rw [hs2] at hx;exact hx,h2.below hb3 lR7,hm.same (hb3.block _ hm.lt),World.ownsRow_nil _ _ _ _,World.ownsRow_nil _ _ _ _,fun k hk=>by cases hk⟩,Pb.start 0,lR7,by decide⟩
 ·exact aC0 (aC0 hb1 hb2) hb3
theorem vK0 (w:World) {k:Nat} (h:(BkS.none_ w.heap.size).foot (w.heap.size+2) k):w.heap.size≤k:=by
 rcases h with rfl | (rfl | h | h) | rfl | h | h
 ·omega
 ·exact lR7
 ·cases h
 ·cases h
 ·exact Nat.le_succ _
 ·cases h
 ·cases h
set_option maxHeartbeats 1000000 in
theorem qR1 (bb m:Nat) (b:BkS) (w:World) (h:Bk w bb m b):Calls Tryz.prog 237 #[.pointer (some ⟨bb,0,none⟩)] w fun e W'=>e=.returned (.int .i64 ((b.S 0).length+(b.S 1).length:Nat))∧Below w.heap.size w W':=by
 have hc:w.cell? ⟨bb,0,none⟩=some (.pointer (some ⟨b.ab,0,none⟩)):=aA0 (j:=0) h.at_.box rfl;have H:Hid (Bk w bb m b):=h;clear h;go_enter Tryz.func237,Tryz.ntmps237;go_wp2_with fail;refine (bY1 b.ab 100 b.vs b.vf b.rs b.fr _ _ H.out.at_.ar (by have:=H.out.ok.so.small;have:=H.out.steps;omega) rfl H.out.ok.so.cnt).mono ?_;rintro e w1 ⟨rfl,n,rfl⟩;go_wp2;go_ret;exact ⟨by rw [←H.out.ok.cnt];rfl,below_drewN (Below.refl _ _) n⟩
end Go.Proofs.YtaelphbianmckaaGreatDoor
