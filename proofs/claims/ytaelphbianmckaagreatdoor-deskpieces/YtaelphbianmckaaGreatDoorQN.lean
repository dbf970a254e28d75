/- DeskPieces: a part of the proof, packed (the readable form: the templates). -/
import Derived.Test.YtaelphbianmckaaGreatDoorQA
import Derived.Test.YtaelphbianmckaaGreatDoorQM
import Derived.Deep.RegionWith
import Derived.Deep.CutRange
import Derived.Test.YtaelphbianmckaaGreatDoorQH
import Derived.Test.YtaelphbianmckaaGreatDoorQI
import Derived.Deep.RegionHeld3
import Derived.Lib.QuietBelow
import Derived.Lib.MinMax
import Derived.Shelf.Abstract
import Derived.Deep.DeepCutAuto
import Derived.Deep.CutBlock
namespace Go.Proofs.YtaelphbianmckaaGreatDoor
open Go.RowKit
def fL0 (w:World) (mb:Nat) (a b:Int):Prop:=w.heap[mb]? = some (.cells #[.int .i64 a,.int .i64 b] 257 (0,0))
theorem fL0.below {w w':World} {mb:Nat} {a b:Int} (h:fL0 w mb a b) (hb:Below w.heap.size w w'):fL0 w' mb a b:=fH0 h hb
theorem fL0.set {w:World} {mb:Nat} {a b:Int} (h:fL0 w mb a b) (a' b':Int):fL0 ((w.setCell ⟨mb,0,none⟩ (.int .i64 a')).setCell ⟨mb,1,none⟩ (.int .i64 b')) mb a' b':=
 gJ0 (j:=1) _ (gJ0 (j:=0) (.int .i64 a') h)
theorem fQ1 {w:World} {base:Nat} {e t:TypeId} {size:Nat} {v:Value} {n:Nat} {xs:List Value} {mb j:Nat} {vs:Array Value} {u:Value} (h:w.ownsRow base e size v n xs) (hb:w.heap[mb]? = some (.cells vs t (0,0))) (ht:e≠t):(w.setCell ⟨mb,j,none⟩ u).ownsRow base e size v n xs:=by
 refine ⟨h.1,h.2.imp id (fun ⟨g,cap,cur,e1,hg,hh,r⟩=>⟨g,cap,cur,e1,hg,(Below.heap_setCell _ _ _ _ (fun e2=>?_)).trans hh,r⟩)⟩;have e3:g=mb:=e2;rw [e3,hb] at hh;simp at hh;exact ht hh.2.symm
theorem pA1 {w:World} {base:Nat} {e:TypeId} {size:Nat} {v:Value} {n:Nat} {xs:List Value} {B:Nat} {l:List Ord} {more:Int} (h:w.ownsRow base e size v n xs) (hL:bS0 w B l more):∀k,v.ownBlock=some k→(some B:Option Nat)≠some k:=fun k hk e2=>by
 obtain ⟨D,⟨es,clock,e1,_⟩,_⟩:=hL;rcases h.2 with ⟨rfl,_⟩ | ⟨g,cap,cur,rfl,_,hh,_⟩
 ·simp [Value.ownBlock] at hk
 ·simp [Value.ownBlock] at hk;injection e2 with e2;subst hk;subst e2;rw [hh] at e1;simp at e1
theorem pB1 {o:Ord} {F:List Ord} {k:Nat} (h:k<F.length) (ho:oAt F k=o) (hk:o.kind=2):andB o (sumQ mkBB (F.take k))=sumQ mkBB (F.take (k+1)):=by
 rw [oT0 _ h,ho];unfold andB mkBB
 by_cases hs:o.side=1 <;> simp [hs,hk]
theorem pC1 {o:Ord} {F:List Ord} {k:Nat} (h:k<F.length) (ho:oAt F k=o) (hk:o.kind=2):andS o (sumQ mkSB (F.take k))=sumQ mkSB (F.take (k+1)):=by
 rw [oT0 _ h,ho];unfold andS mkSB
 by_cases hs:o.side=1 <;> simp [hs,hk]
theorem kU1 {o:Ord} (l:List Ord) (hk:o.kind≠2):andB o (sumQ (cM0 o.price) l)=sumQ (cM0 o.price) (l++[o]):=by
 rw [hC0];unfold andB cM0
 by_cases hs:o.side=1 <;> simp [hs,hk]
theorem kV1 {o:Ord} (l:List Ord) (hk:o.kind≠2):andS o (sumQ (dF0 o.price) l)=sumQ (dF0 o.price) (l++[o]):=by
 rw [hC0];unfold andS dF0
 by_cases hs:o.side=1 <;> simp [hs,hk]
theorem wT0 {F:List Ord} {k:Nat} (h:k<F.length):F.take (k+1)=F.take k++[oAt F k]:=by rw [List.take_succ_eq_append_getElem h,fS0 h]
theorem kW1 {o:Ord} (h:okO o=true) (hk:o.kind≠2):dP0 o=true:=by unfold dP0;rw [h];simp [hk]
theorem fR1 (w:World) (o:Obj) (more:Int) (hm:¬0<more):bS0 ((w.alloc o).alloc (.map #[] 0)) (w.heap.size+1) [] more:=by
 have h:=World.ownsMap_made (w.alloc o) Tryz.prog 3 lotR;rw [show (w.alloc o).heap.size=w.heap.size+1 by simp] at h;exact ⟨_,h.mono (by simp),⟨_,rfl⟩,LotD.start hm⟩
theorem fS1 (w:World) (o:Obj) {more:Int} (hm:0<more) (hw:(Lit.int .i64 more).wf=true):
  ∃w',(Instr.mapUpdate 258 (.map (some (w.heap.size+1))) (.int .i64 more) (.agg #[.int .i64 0,.int .i64 0])).run Tryz.prog ((w.alloc o).alloc (.map #[] 0))=.ok () w'∧bS0 w' (w.heap.size+1) [] more∧((w.alloc o).alloc (.map #[] 0)).grownBy w' (some (w.heap.size+1)):=by
 have h:=World.ownsMap_made (w.alloc o) Tryz.prog 3 lotR;rw [show (w.alloc o).heap.size=w.heap.size+1 by simp] at h;obtain ⟨w',hr,ho',hg⟩:=h.update Tryz.cu_keyInt Tryz.underlying258 (by unfold maxLen;omega) (Tryz.cu_keyIs hw) (wR0 _ _);exact ⟨w',hr,⟨_,ho'.mono (by simp),⟨_,rfl⟩,LotD.more hm⟩,hg⟩
set_option maxRecDepth 4000 in
set_option maxHeartbeats 4000000 in
theorem tL1 (a:Option Addr) (cap:Nat) (l:List Ord) (more:Int) (w:World) (h:bX0 w a l) (hl:l.length≤1000) (hw:∀o∈l,wf64 o.price) (hm:wf64 more):
  Calls Tryz.prog 130 #[.slice a l.length cap,.int .i64 more] w fun e w'=>∃v',e=.returned v'∧w'.ownsRow w.heap.size 252 3 v' (aM0 l more).length (ptV (aM0 l more))∧Below w.heap.size w w':=by
 have HA:Hid (bX0 w a l):=h;have HWF:Hid (∀o∈l,wf64 o.price):=hw;have hmm:=@run_makeMap Tryz.prog;clear h hw;go_enter Tryz.func130,Tryz.ntmps130;go_upto_if 11 with fail;go_cut [] from 10 to 14 (fun wc=>bS0 wc (w.heap.size+1) [] more∧fL0 wc w.heap.size 0 0∧Below w.heap.size w wc)
 case first=>
  have hb2:Below w.heap.size w ((w.alloc (.cells #[.int .i64 0,.int .i64 0] 257)).alloc (.map #[] 0)):=aO0 (bL0 w _) (bL0 _ _);have hk2:fL0 ((w.alloc (.cells #[.int .i64 0,.int .i64 0] 257)).alloc (.map #[] 0)) w.heap.size 0 0:=fH0 (heap_alloc_new w _) (bL0 _ _)
  by_cases hmp:0<more
  ·obtain ⟨w1,r1,hL1,hg1⟩:=fS1 w (.cells #[.int .i64 0,.int .i64 0] 257) hmp hm;have HL1:Hid (bS0 w1 (w.heap.size+1) [] more):=hL1;have HK1:Hid (fL0 w1 w.heap.size 0 0):=(hg1.block w.heap.size (lt_of_block hk2) (by simp)).trans hk2;have HB1:Hid (Below w.heap.size w w1):=hb2.grown hg1 (by simp;omega) (fun q hq=>by injection hq with hq;omega);clear hL1 hg1 hb2 hk2;go_wp2_with fail;go_meet;exact ⟨HL1.out,HK1.out,HB1.out⟩
  ·have HL1:Hid (bS0 ((w.alloc (.cells #[.int .i64 0,.int .i64 0] 257)).alloc (.map #[] 0)) (w.heap.size+1) [] more):=fR1 w _ more hmp;have HB1:Hid (Below w.heap.size w ((w.alloc (.cells #[.int .i64 0,.int .i64 0] 257)).alloc (.map #[] 0))):=hb2;have HK1:Hid (fL0 ((w.alloc (.cells #[.int .i64 0,.int .i64 0] 257)).alloc (.map #[] 0)) w.heap.size 0 0):=hk2;clear hb2 hk2;go_wp2_with fail;go_meet;exact ⟨HL1.out,HK1.out,HB1.out⟩
 case rest=>
  obtain ⟨hL,hK,hb⟩:=hcut;have HL:Hid (bS0 wc (w.heap.size+1) [] more):=hL;have HK:Hid (fL0 wc w.heap.size 0 0):=hK;have HB:Hid (Below w.heap.size w wc):=hb;clear hL hK hb hmm;go_wp2_with fail;refine (rN1 a _ l wc (HA.out.below HB.out) hl).mono ?_;rintro e w2 ⟨v2,rfl,hown,hb2⟩;have HW2:Hid (w2.ownsRow w.heap.size 92 5 v2 (l.filter okO).length (oV (l.filter okO))):=cB0 hown HB.out.size;have HL2:Hid (bS0 w2 (w.heap.size+1) ((l.filter okO).take 0) more):=HL.out.below hb2;have HK2:Hid (fL0 w2 w.heap.size (sumQ mkBB ((l.filter okO).take 0)) (sumQ mkSB ((l.filter okO).take 0))):=HK.out.below hb2;have HB2:Hid (Below w.heap.size w w2):=aO0 HB.out hb2;have HF:Hid (∀o∈l.filter okO,okO o=true):=fun o ho=>(List.mem_filter.1 ho).2
  have HFW:Hid (∀o∈l.filter okO,wf64 o.price):=fun o ho=>HWF.out o (List.mem_filter.1 ho).1
  have hfl:(l.filter okO).length≤1000:=Nat.le_trans (List.length_filter_le _ _) hl;have HCU:Hid (∀xs:List Int,xs.Pairwise (· < ·)→(∀p,p∈xs↔p∈aW0 (l.filter okO) more)→ptsX xs (l.filter okO)=aM0 l more):=fun xs h1 h2=>aZ1 h1 h2
  obtain ⟨ao,vc,rfl,_,_⟩:=fN0 hown;clear hown hb2 HL HK HB HA HWF;generalize l.filter okO=F at HW2 HL2 HK2 HF HFW hfl HCU ⊢;go_wp2_with fail;go_loopw [18] (fun i wr=>∃k:Nat,k≤F.length∧i=.int .i64 k∧fL0 wr w.heap.size (sumQ mkBB (F.take k)) (sumQ mkSB (F.take k))∧bS0 wr (w.heap.size+1) (F.take k) more∧wr.ownsRow w.heap.size 92 5 (.slice ao F.length vc) F.length (oV F)∧Below w.heap.size w wr) (fun i _=>F.length - (RowKit.intOf i).toNat)
  case atStart=>exact ⟨0,Nat.zero_le _,rfl,HK2.out,HL2.out,HW2.out,HB2.out⟩
  case round=>
   obtain ⟨k,hk,rfl,hmk,hlo,hro,hb⟩:=hrel;have HK:Hid (fL0 wr w.heap.size (sumQ mkBB (F.take k)) (sumQ mkSB (F.take k))):=hmk;have HL:Hid (bS0 wr (w.heap.size+1) (F.take k) more):=hlo;have HR:Hid (wr.ownsRow w.heap.size 92 5 (.slice ao F.length vc) F.length (oV F)):=hro;have HB:Hid (Below w.heap.size w wr):=hb;clear HK2 HL2 HW2 HB2 hmk hlo hb
   by_cases hk1:k<F.length
   ·have hlt:(k:Int)<(F.length:Int):=by omega
    obtain ⟨g,cap',hv,d0,d1,d2,d3,d4⟩:=iB0 hro hk1;simp only [Value.slice.injEq,true_and] at hv;obtain ⟨rfl,rfl⟩:=hv;have HOK:Hid (okO (oAt F k)=true):=HF.out _ (by rw [fS0 hk1];exact List.getElem_mem hk1);have HPW:Hid (wf64 (oAt F k).price):=HFW.out _ (by rw [fS0 hk1];exact List.getElem_mem hk1);have HTS:Hid (F.take (k+1)=F.take k++[oAt F k]):=wT0 hk1;have hqb:=(jP0 HOK.out).2;have hs1:=bV0 (q:=mkBB) (wP0 HF.out k) (by rw [List.length_take];omega);have hs2:=bV0 (q:=mkSB) (wP0 HF.out k) (by rw [List.length_take];omega);have HMB:Hid ((oAt F k).kind=2→andB (oAt F k) (sumQ mkBB (F.take k))=sumQ mkBB (F.take (k+1))):=pB1 hk1 rfl;have HMS:Hid ((oAt F k).kind=2→andS (oAt F k) (sumQ mkSB (F.take k))=sumQ mkSB (F.take (k+1))):=pC1 hk1 rfl;have HNB:Hid ((oAt F k).kind≠2→sumQ mkBB (F.take (k+1))=sumQ mkBB (F.take k)):=fun e=>fG1 hk1 (by unfold mkBB;simp [e])
    have HNS:Hid ((oAt F k).kind≠2→sumQ mkSB (F.take (k+1))=sumQ mkSB (F.take k)):=fun e=>fG1 hk1 (by unfold mkSB;simp [e])
    have htl:(F.take k).length≤1000:=by rw [List.length_take];omega
    have HOT:Hid (∀o∈F.take k,okO o=true):=wP0 HF.out k;clear hro;generalize oAt F k=x at d0 d1 d2 d3 d4 HOK HPW HTS hqb HMB HMS HNB HNS;have hX:wS0 (wr.alloc (.cells #[.int .i64 x.id,.int .i64 x.side,.int .i64 x.kind,.int .i64 x.price,.int .i64 x.qty] 92)) wr.heap.size x:=heap_alloc_new wr _;have hbA:=bL0 wr (.cells #[.int .i64 x.id,.int .i64 x.side,.int .i64 x.kind,.int .i64 x.price,.int .i64 x.qty] 92)
    by_cases hkd:x.kind=2
    ·have hkb:(x.kind == 2)=true:=beq_iff_eq.2 hkd;have m0:=aV0 (j:=0) (HK.out.below hbA) rfl;have m1:=aV0 (j:=1) (HK.out.below hbA) rfl;have HLS:Hid (bS0 wr (w.heap.size+1) (F.take (k+1)) more):=by rw [HTS.out];exact HL.out.same hkd
     have HM1:Hid (andB x (sumQ mkBB (F.take k))=sumQ mkBB (F.take (k+1))):=HMB.out hkd;have HM2:Hid (andS x (sumQ mkSB (F.take k))=sumQ mkSB (F.take (k+1))):=HMS.out hkd;clear hX HMB HMS HNB HNS HL hkd;generalize sumQ mkBB (F.take k)=sb at hs1 HK m0 HM1;generalize sumQ mkSB (F.take k)=ssl at hs2 HK m1 HM2;go_wp2_with fail;have HX:Hid (wS0 (wr.alloc (.cells #[.int .i64 x.id,.int .i64 x.side,.int .i64 x.kind,.int .i64 x.price,.int .i64 x.qty] 92)) wr.heap.size x):=heap_alloc_new wr _;have HBA:Hid (Below wr.heap.size wr (wr.alloc (.cells #[.int .i64 x.id,.int .i64 x.side,.int .i64 x.kind,.int .i64 x.price,.int .i64 x.qty] 92))):=hbA;clear hbA;generalize wr.alloc (.cells #[.int .i64 x.id,.int .i64 x.side,.int .i64 x.kind,.int .i64 x.price,.int .i64 x.qty] 92)=V at m0 m1 HX HBA ⊢;refine (rM1 sb ssl x V (by omega) (by omega) (by omega)).mono ?_;rintro e w5 ⟨rfl,hb5⟩;have hk5:=(HK.out.below HBA.out).below hb5;have HK5:Hid (fL0 w5 w.heap.size sb ssl):=hk5;have n0:=aV0 (j:=0) hk5 rfl;have n1:=aV0 (j:=1) hk5 rfl;have f0:=eL0 (j:=0) hk5;have f1:=eL0 (j:=1) hk5;have hb05:=aO0 HBA.out hb5;have HL5:Hid (bS0 w5 (w.heap.size+1) (F.take (k+1)) more):=HLS.out.below hb05;have HR5:Hid (w5.ownsRow w.heap.size 92 5 (.slice (some ⟨g,0,none⟩) F.length vc) F.length (oV F)):=iS0 HR.out hb05 lR7;have HB5:Hid (Below w.heap.size w w5):=aO0 HB.out hb05;clear hk5 hb5 hb05 m0 m1 HX HBA HLS HK HR HB;rw [HM1.out,HM2.out];go_wp2_with fail;go_roundw
     case rel=>
      refine ⟨k+1,hk1,by go_num,HK5.out.set _ _,HL5.out.block ?_,fQ1 (fQ1 HR5.out HK5.out (by decide)) (gJ0 (j:=0) _ HK5.out) (by decide),(HB5.out.setCell lR7 _).setCell lR7 _⟩;exact (Below.heap_setCell _ _ _ _ (by simp)).trans (Below.heap_setCell _ _ _ _ (by simp))
     case measure=>simp [RowKit.intOf];omega
    ·have hkb:(x.kind == 2)=false:=beq_eq_false_iff_ne.2 hkd;have HM1:Hid (sumQ mkBB (F.take (k+1))=sumQ mkBB (F.take k)):=HNB.out hkd;have HM2:Hid (sumQ mkSB (F.take (k+1))=sumQ mkSB (F.take k)):=HNS.out hkd;have hq1:=bV0 (q:=cM0 x.price) HOT.out htl;have hq2:=bV0 (q:=dF0 x.price) HOT.out htl;have HA1:Hid (andB x (sumQ (cM0 x.price) (F.take k))=sumQ (cM0 x.price) (F.take k++[x])):=kU1 _ hkd;have HA2:Hid (andS x (sumQ (dF0 x.price) (F.take k))=sumQ (dF0 x.price) (F.take k++[x])):=kV1 _ hkd;have HNM:Hid (dP0 x=true):=kW1 HOK.out hkd;clear HMB HMS HNB HNS;go_upto_region 10 with fail;have HX:Hid (wS0 (wr.alloc (.cells #[.int .i64 x.id,.int .i64 x.side,.int .i64 x.kind,.int .i64 x.price,.int .i64 x.qty] 92)) wr.heap.size x):=hX;have HBA:Hid (Below wr.heap.size wr (wr.alloc (.cells #[.int .i64 x.id,.int .i64 x.side,.int .i64 x.kind,.int .i64 x.price,.int .i64 x.qty] 92))):=hbA;have HLV:Hid (bS0 (wr.alloc (.cells #[.int .i64 x.id,.int .i64 x.side,.int .i64 x.kind,.int .i64 x.price,.int .i64 x.qty] 92)) (w.heap.size+1) (F.take k) more):=HL.out.below hbA;clear hX hbA d0 d1 d2 d3 d4;generalize wr.alloc (.cells #[.int .i64 x.id,.int .i64 x.side,.int .i64 x.kind,.int .i64 x.price,.int .i64 x.qty] 92)=V at HX HBA HLV ⊢;generalize wr.heap.size=xb at HX ⊢;have hlk:(Instr.lookup 258 (.map (some (w.heap.size+1))) (.int .i64 x.price) false).run Tryz.prog V.drew=.ok (.agg #[.int .i64 (sumQ (cM0 x.price) (F.take k)),.int .i64 (sumQ (dF0 x.price) (F.take k))]) V.drew:=(HLV.out.block (w':=V.drew) rfl).look HPW.out;have x0:=aV0 (j:=0) HX.out rfl;have x1:=aV0 (j:=1) HX.out rfl;have x2:=aV0 (j:=2) HX.out rfl;have x3:=aV0 (j:=3) HX.out rfl;have x4:=aV0 (j:=4) HX.out rfl;go_region_with (go_at_call 192;refine (rM1 _ _ x _ ?_ ?_ ?_).mono ?_;(omega);(omega);(omega);rintro e w5 ⟨rfl,hb5⟩;rw [HA1.out,HA2.out];(have y3:=aV0 (j:=3) (fH0 (w:=V.drew) HX.out hb5) rfl;obtain ⟨w6,hr6,hL6,hg6⟩:=bS0.store (HLV.out.block (w':=w5) (hb5.block _ HLV.out.lt)) HNM.out HPW.out htl))
     all_goals
      have HL6:Hid (bS0 w6 (w.heap.size+1) (F.take (k+1)) more):=by rw [HTS.out];exact hL6
      have hk5:=(HK.out.below HBA.out).below (w:=V) (w':=V.drew) (Below.refl _ V).drew;have hk6:=hk5.below hb5;have HK6:Hid (fL0 w6 w.heap.size (sumQ mkBB (F.take k)) (sumQ mkSB (F.take k))):=(hg6.block w.heap.size (lt_of_block hk6) (by simp)).trans hk6;have hr5:=iS0 HR.out (aO0 HBA.out (aO0 (w1:=V.drew) (Below.refl _ V).drew hb5)) lR7;have HR6:Hid (w6.ownsRow w.heap.size 92 5 (.slice (some ⟨g,0,none⟩) F.length vc) F.length (oV F)):=uP0 hr5 hg6 (pA1 hr5 (HLV.out.block (w':=w5) (hb5.block _ HLV.out.lt)));have hb05:=aO0 HB.out (aO0 HBA.out (aO0 (w1:=V.drew) (Below.refl _ V).drew hb5));have HB6:Hid (Below w.heap.size w w6):=hb05.grown hg6 hb05.size (fun q hq=>by injection hq with hq;omega);clear hb05 hr5 hk6 hk5 hL6 hg6 hr6 y3 hb5 x0 x1 x2 x3 x4 hlk;go_wp2_with fail;go_roundw
      case rel=>exact ⟨k+1,hk1,by go_num,by rw [HM1.out,HM2.out];exact HK6.out,HL6.out,HR6.out,HB6.out⟩
      case measure=>simp [RowKit.intOf];omega
   ·obtain rfl:k=F.length:=by omega
    rw [List.take_length] at HK HL;have m0:=aV0 (j:=0) HK.out rfl;have m1:=aV0 (j:=1) HK.out rfl;clear hro;go_wp2_with fail;refine (kT1 _ F more wr HL.out HF.out hfl).mono ?_;rintro e w7 ⟨v7,xs,rfl,hx1,hx2,hown7,hb7⟩
    have HO7:Hid (w7.ownsRow w.heap.size 252 3 v7 (aM0 l more).length (ptV (aM0 l more))):=by
     rw [←HCU.out xs hx1 hx2];exact cB0 hown7 HB.out.size
    have HB7:Hid (Below w.heap.size w w7):=aO0 HB.out hb7;clear hx1 hx2 hown7 hb7 m0 m1;go_wp2_with fail;go_ret;exact ⟨_,rfl,HO7.out,HB7.out⟩
def topF (f:Pt→Int) (a:Int) (l:List Pt):Int:=l.foldl (fun m x=>max m (f x)) a
def dT0 (f:Pt→Int) (l:List Pt):List Pt:=l.filter fun x=>f x == topF f (f (ptAt l 0)) l
def bI0 (f:Pt→Int) (l:List Pt):List Pt:=dT0 (fun x=>-f x) l
def surB (x:Pt):Int:=x.dem - x.sup
def apB (a b:Int):Int:=max a b - min a b
def lfP (x:Pt):Int:=apB x.dem x.sup
def fQ0 (around:Int) (x:Pt):Int:=apB x.price around
def upB (x:Pt):Bool:=decide (surB x>0)
def iM0 (x:Pt):Bool:=decide (surB x<0)
def allP (q:Pt→Bool) (l:List Pt):Bool:=(((l.filter q).length:Int) == (l.length:Int))
def fD0 (around:Int) (l:List Pt):List Pt:=
 if allP upB l=true then dT0 Pt.price l else if allP iM0 l=true then bI0 Pt.price l else bI0 Pt.price (bI0 (fQ0 around) l)
def oV0 (l:List Pt):Bool:=((l.length:Int) == 0) || decide (trB (ptAt l 0)<1)
def wU0 (l:List Pt) (around:Int):Quo:=
 if oV0 (dT0 trB l)=true then ⟨0,0,0⟩ else quoP (ptAt (fD0 around (bI0 lfP (dT0 trB l))) 0)
theorem fT1 (a b:Int):apB a b=absI (a - b):=by unfold apB absI;split <;> omega
theorem mV1 (x:Pt):lfP x=lfB x:=fT1 _ _
theorem fU1 {f:Pt→Int} {a:Int} {l:List Pt} {k:Nat} (h:k<l.length):topF f a (l.take (k+1))=max (topF f a (l.take k)) (f (ptAt l k)):=pY0 _ _ h
theorem fV1 (f:Pt→Int):∀(l:List Pt) (a:Int),a≤topF f a l
 | [],a=>Int.le_refl _
 | x::l,a=>Int.le_trans (by omega) (fV1 f l (max a (f x)))
theorem yY0 (f:Pt→Int):∀(l:List Pt) (a:Int) {x:Pt},x∈l→f x≤topF f a l
 | y::l,a,x,h=>by
  rw [List.mem_cons] at h;rcases h with rfl | h
  ·exact Int.le_trans (by omega) (fV1 f l (max a (f x)))
  ·exact yY0 f l _ h
theorem fW1 (f:Pt→Int):∀(l:List Pt) (a:Int),topF f a l=a∨∃x∈l,f x=topF f a l
 | [],a=>Or.inl rfl
 | y::l,a=>by
  have e:topF f a (y::l)=topF f (max a (f y)) l:=rfl;rw [e];rcases fW1 f l (max a (f y)) with h | ⟨x,hx,h⟩
  ·rw [h]
   by_cases hm:f y≤a
   ·exact Or.inl (by omega)
   ·exact Or.inr ⟨y,List.mem_cons_self ..,by omega⟩
  ·exact Or.inr ⟨x,List.mem_cons_of_mem _ hx,h⟩
theorem dS0 (f:Pt→Int) {l:List Pt} (h:0<l.length):∃top,dT0 f l=l.filter (fun x=>f x == top)∧(∀x∈l,f x≤top)∧∃x∈l,f x=top:=by
 refine ⟨topF f (f (ptAt l 0)) l,rfl,fun x hx=>yY0 f l _ hx,?_⟩;rcases fW1 f l (f (ptAt l 0)) with e | e
 ·exact ⟨ptAt l 0,cA0 h,e.symm⟩
 ·exact e
theorem oW0 (f:Pt→Int) (l:List Pt):(dT0 f l).length≤l.length:=List.length_filter_le _ _
theorem qQ0 (f:Pt→Int) (l:List Pt):(bI0 f l).length≤l.length:=oW0 _ _
theorem oX0 {f:Pt→Int} {l:List Pt} {x:Pt} (h:x∈dT0 f l):x∈l:=(List.mem_filter.1 h).1
theorem hD0 {f:Pt→Int} {l:List Pt} {x:Pt} (h:x∈bI0 f l):x∈l:=oX0 h
theorem fE0 (f:Pt→Int) {l:List Pt} (h:0<l.length):0<(dT0 f l).length:=by
 obtain ⟨t,e,_,x,hx,h1⟩:=dS0 f h;rw [e];exact List.length_pos_of_mem (a:=x) (List.mem_filter.2 ⟨hx,by simp [h1]⟩)
theorem uQ0 (around:Int) {l:List Pt} (h:0<l.length):0<(fD0 around l).length:=by
 unfold fD0;split
 ·exact fE0 _ h
 ·split
  ·exact fE0 _ h
  ·exact fE0 _ (fE0 _ h)
theorem fX1 {around:Int} {l:List Pt} {x:Pt} (h:x∈fD0 around l):x∈l:=by
 unfold fD0 at h;split at h
 ·exact oX0 h
 ·split at h
  ·exact hD0 h
  ·exact hD0 (hD0 h)
theorem fY1 (q:Pt→Bool) (l:List Pt):allP q l=l.all q:=by
 induction l with
 | nil=>rfl
 | cons x l ih=>
  have hl:=List.length_filter_le q l
  by_cases h:q x=true
  ·have e:allP q (x::l)=allP q l:=by
    unfold allP;simp only [List.filter_cons,h,if_true,List.length_cons];rw [Bool.eq_iff_iff];simp
   rw [e,ih];simp [h]
  ·have e:allP q (x::l)=false:=by
    unfold allP;simp only [List.filter_cons,h,List.length_cons];simp;omega
   rw [e];simp [h]
theorem hV0 {q:Pt→Bool}:∀{l:List Pt},(∃x∈l,q x=true)→∃i,i<l.length∧ptAt (l.filter q) 0=ptAt l i∧q (ptAt l i)=true∧∀j,j<i→q (ptAt l j)=false
 | [],h=>by obtain ⟨x,hx,_⟩:=h;cases hx
 | y::l,h=>by
  by_cases hy:q y=true
  ·refine ⟨0,by simp,?_,?_,fun j hj=>by omega⟩
   ·simp [ptAt,hy]
   ·simpa [ptAt] using hy
  ·obtain ⟨x,hx,hq⟩:=h;rw [List.mem_cons] at hx;rcases hx with rfl | hx
   ·exact absurd hq hy
   ·obtain ⟨i,h1,h2,h3,h4⟩:=hV0 (l:=l) ⟨x,hx,hq⟩;refine ⟨i+1,by simpa using h1,?_,?_,fun j hj=>?_⟩
    ·rw [List.filter_cons,if_neg hy,h2];simp [ptAt]
    ·simpa [ptAt] using h3
    ·cases j with
     | zero=>simpa [ptAt] using hy
     | succ j=>have:=h4 j (by omega);simpa [ptAt] using this
def k1P (b s:Bool) (around:Int) (x:Pt):Int:=if b=true then 0 else if s=true then 0 else absI (x.price - around)
def k2P (b:Bool) (x:Pt):Int:=if b=true then -x.price else x.price
theorem cK0 (b s:Bool) (around:Int) (p x:Pt):lM0 b s around p x=true↔(k1P b s around p<k1P b s around x∨(k1P b s around p=k1P b s around x∧k2P b p<k2P b x)):=by
 unfold lM0 k1P k2P;cases b <;> cases s <;> simp
def rV0 (b s:Bool) (around:Int) (l:List Pt) (k i:Nat):Prop:=
 (∀j,j<k→lM0 b s around (ptAt l j) (ptAt l i)=false)∧∀j,j<i→lM0 b s around (ptAt l i) (ptAt l j)=true
theorem oY0 (b s:Bool) (around:Int) {l:List Pt} (h:0<l.length):∀k,k≤l.length→∃i,i<l.length∧wD0 b s around l k=ptAt l i∧rV0 b s around l k i∧(i<k∨i=0)
 | 0,_=>⟨0,h,rfl,⟨fun j hj=>by omega,fun j hj=>by omega⟩,Or.inr rfl⟩
 | k+1,hk=>by
  obtain ⟨i,h1,h2,⟨h3,h4⟩,h5⟩:=oY0 b s around h k (by omega);rw [pZ0 (by omega),h2];unfold dU1
  by_cases hb:lM0 b s around (ptAt l k) (ptAt l i)=true
  ·rw [if_pos hb];have hb':=(cK0 ..).1 hb;refine ⟨k,by omega,rfl,⟨fun j hj=>?_,fun j hj=>?_⟩,Or.inl (by omega)⟩
   ·rw [Bool.eq_false_iff];intro hc;have hc':=(cK0 ..).1 hc
    by_cases e:j=k
    ·subst e;omega
    ·have:=h3 j (by omega);rw [Bool.eq_false_iff] at this;exact this ((cK0 ..).2 (by omega))
   ·have:=h3 j hj;rw [Bool.eq_false_iff] at this;have h6:¬_:=fun e=>this ((cK0 ..).2 e)
    exact (cK0 ..).2 (by omega)
  ·rw [if_neg hb];refine ⟨i,h1,rfl,⟨fun j hj=>?_,h4⟩,h5.imp (fun e=>by omega) id⟩
   by_cases e:j=k
   ·subst e;simpa using hb
   ·exact h3 j (by omega)
theorem fZ1 {b s:Bool} {around:Int} {l:List Pt} {i i':Nat} (hi:i<l.length) (hi':i'<l.length) (h:rV0 b s around l l.length i) (h':rV0 b s around l l.length i'):i=i':=by
 rcases Nat.lt_trichotomy i i' with e | e | e
 ·have h1:=h'.2 i e;rw [h.1 i' hi'] at h1;cases h1
 ·exact e
 ·have h1:=h.2 i' e;rw [h'.1 i hi] at h1;cases h1
theorem wV0 {around:Int} {l:List Pt} (h:0<l.length):∃i,i<l.length∧ptAt (fD0 around l) 0=ptAt l i∧rV0 (tR0 l) (mF0 l) around l l.length i:=by
 have eu:allP upB l=tR0 l:=by
  rw [fY1];unfold tR0 upB surB;congr 1;funext x;first | (simp;done) | (simp;omega)
 have ed:allP iM0 l=mF0 l:=by
  rw [fY1];unfold mF0 iM0 surB;congr 1;funext x;first | (simp;done) | (simp;omega)
 unfold fD0;rw [eu,ed];cases hb:tR0 l with
 | true=>
  rw [if_pos rfl];obtain ⟨t,e,ht,z,hz,hz1⟩:=dS0 Pt.price h;rw [e];obtain ⟨i,h1,h2,h3,h4⟩:=hV0 (q:=fun x=>x.price == t) ⟨z,hz,by simp [hz1]⟩;refine ⟨i,h1,h2,fun j hj=>?_,fun j hj=>?_⟩
  ·rw [Bool.eq_false_iff];intro hc;have hc':=(cK0 ..).1 hc;have:=ht _ (cA0 hj);have h3':(ptAt l i).price=t:=by simpa using h3
   simp [k1P,k2P] at hc';omega
  ·have h5:=h4 j hj;have h5':(ptAt l j).price≠t:=by simpa using h5
   have:=ht _ (cA0 (Nat.lt_trans hj h1));have h3':(ptAt l i).price=t:=by simpa using h3
   exact (cK0 ..).2 (by simp [k1P,k2P];omega)
 | false=>
  rw [if_neg (by decide)];cases hs:mF0 l with
  | true=>
   rw [if_pos rfl];obtain ⟨t,e,ht,z,hz,hz1⟩:=dS0 (fun x=>-x.price) h;rw [bI0,e];obtain ⟨i,h1,h2,h3,h4⟩:=hV0 (q:=fun x=>-x.price == t) ⟨z,hz,by simp [hz1]⟩;refine ⟨i,h1,h2,fun j hj=>?_,fun j hj=>?_⟩
   ·rw [Bool.eq_false_iff];intro hc;have hc':=(cK0 ..).1 hc;have:=ht _ (cA0 hj);have h3':-(ptAt l i).price=t:=by simpa using h3
    simp [k1P,k2P] at hc';omega
   ·have h5:=h4 j hj;have h5':-(ptAt l j).price≠t:=by simpa using h5
    have:=ht _ (cA0 (Nat.lt_trans hj h1));have h3':-(ptAt l i).price=t:=by simpa using h3
    exact (cK0 ..).2 (by simp [k1P,k2P];omega)
  | false=>
   rw [if_neg (by decide)];obtain ⟨t,e,ht,z,hz,hz1⟩:=dS0 (fun x=>-fQ0 around x) h;have e':bI0 (fQ0 around) l=l.filter (fun x=>-fQ0 around x == t):=e;have hp:0<(bI0 (fQ0 around) l).length:=fE0 _ h;obtain ⟨t2,e2,ht2,z2,hz2,hz3⟩:=dS0 (fun x=>-x.price) hp;rw [show bI0 Pt.price (bI0 (fQ0 around) l)=(bI0 (fQ0 around) l).filter (fun x=>-x.price == t2) from e2];rw [e'] at hz2 ht2 ⊢;rw [List.filter_filter];have hz2':=List.mem_filter.1 hz2;obtain ⟨i,h1,h2,h3,h4⟩:=hV0 (l:=l) (q:=fun x=>(-x.price == t2)&& (-fQ0 around x == t)) ⟨z2,hz2'.1,by rw [hz2'.2];simp [hz3]⟩;have h3':-(ptAt l i).price=t2∧-fQ0 around (ptAt l i)=t:=by simpa using h3
   have hn:∀x:Pt,fQ0 around x=absI (x.price - around):=fun x=>fT1 _ _
   refine ⟨i,h1,h2,fun j hj=>?_,fun j hj=>?_⟩
   ·rw [Bool.eq_false_iff];intro hc;have hc':=(cK0 ..).1 hc;simp only [k1P,k2P,Bool.false_eq_true,if_false,←hn] at hc';have h6:=ht _ (cA0 hj)
    by_cases e:-fQ0 around (ptAt l j)=t
    ·have:=ht2 _ (List.mem_filter.2 ⟨cA0 hj,by simp [e]⟩);omega
    ·omega
   ·have h5:=h4 j hj;have h6:=ht _ (cA0 (Nat.lt_trans hj h1));refine (cK0 ..).2 ?_;simp only [k1P,k2P,Bool.false_eq_true,if_false,←hn]
    by_cases e:-fQ0 around (ptAt l j)=t
    ·have h7:=ht2 _ (List.mem_filter.2 ⟨cA0 (Nat.lt_trans hj h1),by simp [e]⟩);have h8:¬-(ptAt l j).price=t2:=by simpa [e] using h5
     omega
    ·omega
theorem bD1 {around:Int} {l:List Pt} (h:0<l.length):ptAt (fD0 around l) 0=jN1 (tR0 l) (mF0 l) around l:=by
 obtain ⟨i,h1,h2,h3⟩:=wV0 (around:=around) h;obtain ⟨i',h1',h2',h3',_⟩:=oY0 (tR0 l) (mF0 l) around h l.length lR7;rw [tS0] at h2';rw [h2,h2',fZ1 h1 h1' h3 h3']
theorem bE1 (l:List Pt) (around:Int):wU0 l around=aJ0 l around:=by
 unfold wU0 aJ0
 by_cases hm:dA0 l<1
 ·rw [if_pos hm]
  have hn:oV0 (dT0 trB l)=true:=by
   by_cases hl:0<l.length
   ·obtain ⟨t,e,_,z,hz,hz1⟩:=dS0 trB hl;have h2:=cA0 (fE0 trB hl);rw [e] at h2;have h3:=List.mem_filter.1 h2;have h4:=oA0 h3.1;rw [←e] at h4;unfold oV0;rw [Bool.or_eq_true];exact Or.inr (decide_eq_true (by omega))
   ·have:(dT0 trB l).length=0:=by have:=oW0 trB l;omega
    unfold oV0;simp [this]
  rw [if_pos hn]
 ·rw [if_neg hm]
  have hl:0<l.length:=by
   rcases rM0 l with h | ⟨x,hx,_⟩
   ·omega
   ·exact List.length_pos_of_mem hx
  obtain ⟨t,e,ht,z,hz,hz1⟩:=dS0 trB hl;have hp1:=fE0 trB hl
  have et:t=dA0 l:=by
   rcases rM0 l with h | ⟨x,hx,h⟩
   ·omega
   ·have h1:=ht x hx;have h2:=oA0 hz;omega
  subst et;have h3:=List.mem_filter.1 (e ▸ cA0 hp1)
  have hn:oV0 (dT0 trB l)=false:=by
   unfold oV0;rw [Bool.or_eq_false_iff];refine ⟨by simp;intro h0;rw [h0] at hp1;simp at hp1,decide_eq_false ?_⟩;have:trB (ptAt (dT0 trB l) 0)=dA0 l:=by rw [←e] at h3;simpa using h3.2
   omega
  rw [if_neg (by rw [hn];decide)]
  have eb:bI0 lfP (dT0 trB l)=wC0 (dA0 l) (hX0 (dA0 l) l).1 l:=by
   obtain ⟨t2,e2,ht2,z2,hz2,hz3⟩:=dS0 (fun x=>-lfP x) hp1;rw [show bI0 lfP (dT0 trB l)=(dT0 trB l).filter (fun x=>-lfP x == t2) from e2];rcases oB0 (dA0 l) l with ⟨_,h4⟩ | ⟨_,⟨y,hy,hy1,hy2⟩,h5⟩
   ·exact absurd hz1 (h4 z hz)
   ·have e3:t2=-(hX0 (dA0 l) l).1:=by
     rw [e] at hz2 ht2;have a1:=ht2 y (List.mem_filter.2 ⟨hy,by simp [hy1]⟩);have b1:=List.mem_filter.1 hz2;have a2:=h5 z2 b1.1 (by simpa using b1.2);rw [mV1] at a1 hz3;omega
    rw [e,List.filter_filter,wC0]
    congr 1
    funext x
    unfold jM1;rw [e3,mV1,Bool.and_comm]
    congr 1
    rw [Bool.eq_iff_iff];first | (simp;done) | (simp;omega)
  rw [eb,bD1 (tT0 (by omega))];rfl
theorem rQ1 {l:List Pt} {around:Int} (h:0<l.length):ptAt (fD0 around l) 0∈l:=fX1 (cA0 (uQ0 around h))
structure NumFn (g:Nat) (lb:Array Value) (f:Pt→Int) (l:List Pt) (w0:World):Prop where
 enters:∀args w,(callFunc g args).run Tryz.prog w=.ok (.enter g args) w
 tells:∀W,Below w0.heap.size w0 W→∀x∈l,Calls Tryz.prog g (#[.agg #[.int .i64 x.price,.int .i64 x.dem,.int .i64 x.sup]]++lb) W fun e W'=>e=.returned (.int .i64 (f x))∧Below W.heap.size W W'
structure BoolFn (g:Nat) (lb:Array Value) (q:Pt→Bool) (l:List Pt) (w0:World):Prop where
 enters:∀args w,(callFunc g args).run Tryz.prog w=.ok (.enter g args) w
 tells:∀W,Below w0.heap.size w0 W→∀x∈l,Calls Tryz.prog g (#[.agg #[.int .i64 x.price,.int .i64 x.dem,.int .i64 x.sup]]++lb) W fun e W'=>e=.returned (.bool (q x))∧Below W.heap.size W W'
theorem NumFn.later {g:Nat} {lb:Array Value} {f:Pt→Int} {l:List Pt} {w0 w1:World} (h:NumFn g lb f l w0) (hb:Below w0.heap.size w0 w1):NumFn g lb f l w1:=
 ⟨h.enters,fun W hW x hx=>h.tells W (aO0 hb hW) x hx⟩
theorem wW0 {α:Type} (q:α→Bool) {l:List α} {k:Nat} (h:k<l.length):(l.take (k+1)).filter q=if q l[k]=true then (l.take k).filter q++[l[k]] else (l.take k).filter q:=by
 rw [List.take_succ_eq_append_getElem h,List.filter_append]
 by_cases hq:q l[k]=true
 ·rw [if_pos hq];simp [hq]
 ·rw [if_neg hq];simp [hq]
theorem Tryz.infoCp:(Tryz.prog.info? 252).map (fun i=>(i.zero,i.size,i.bytes))=some (some (.agg #[.int .i64 0,.int .i64 0,.int .i64 0]),3,24):=by kernel_rfl
def bF1 (w:World) (b:Nat) (x:Pt):Prop:=w.heap[b]? = some (.cells #[.int .i64 x.price,.int .i64 x.dem,.int .i64 x.sup] 252 (0,0))
theorem bF1.below {w w':World} {b:Nat} {x:Pt} (h:bF1 w b x) (hb:Below w.heap.size w w'):bF1 w' b x:=fH0 h hb
set_option maxRecDepth 4000 in
set_option maxHeartbeats 4000000 in
theorem mW1 (a:Option Addr) (cap:Nat) (l:List Pt) (g:Nat) (lb:Array Value) (q:Pt→Bool) (w:World) (h:hU0 w a l) (hl:l.length≤1000) (hf:BoolFn g lb q l w):
  Calls Tryz.prog 248 #[.slice a l.length cap,.func (.func g) #[] lb] w fun e w'=>∃v',e=.returned v'∧w'.ownsRow w.heap.size 252 3 v' (l.filter q).length (ptV (l.filter q))∧Below w.heap.size w w':=by
 obtain ⟨iP,hiP,hP0,hP1,hP2⟩:=info_parts Tryz.infoCp;have HA:Hid (hU0 w a l):=h;have HF:Hid (BoolFn g lb q l w):=hf;have eg:=hf.enters;clear h hf;go_enter Tryz.func248,Tryz.ntmps248;go_wp2_with fail;go_loopw [5,10] (fun v i wr=>∃k:Nat,k≤l.length∧i=.int .i64 k∧wr.ownsRow w.heap.size 252 3 v ((l.take k).filter q).length (ptV ((l.take k).filter q))∧Below w.heap.size w wr) (fun _ i _=>l.length - (intOf i).toNat)
 case atStart=>exact ⟨0,Nat.zero_le _,rfl,World.ownsRow_nil _ _ _ _,Below.refl _ _⟩
 case round=>
  obtain ⟨k,hk,rfl,hown,hb⟩:=hrel;have HW:Hid (wr.ownsRow w.heap.size 252 3 u5 ((l.take k).filter q).length (ptV ((l.take k).filter q))):=hown;have HB:Hid (Below w.heap.size w wr):=hb
  have hbl:((l.take k).filter q).length≤1000:=by
   have:=List.length_filter_le q (l.take k);rw [List.length_take] at this;omega
  obtain ⟨vao,vcap,rfl,_,_⟩:=fN0 hown;clear hown
  by_cases hk1:k<l.length
  ·have hlt:(k:Int)<(l.length:Int):=by omega
   obtain ⟨b,off,rfl,d0,d1,d2⟩:=HA.out.below hb k hk1;have HC:Hid (∀W,Below w.heap.size w W→Calls Tryz.prog g (#[.agg #[.int .i64 (ptAt l k).price,.int .i64 (ptAt l k).dem,.int .i64 (ptAt l k).sup]]++lb) W fun e W'=>e=.returned (.bool (q (ptAt l k)))∧Below W.heap.size W W'):=fun W hW=>HF.out.tells W hW _ (cA0 hk1)
   have HT:Hid ((l.take (k+1)).filter q=if q (ptAt l k)=true then (l.take k).filter q++[ptAt l k] else (l.take k).filter q):=by rw [vY0 hk1];exact wW0 q hk1
   clear hb;generalize ptAt l k=x at d0 d1 d2 HC HT;generalize (l.take k).filter q=acc at HT HW hbl;go_wp2_with fail;have hX:bF1 (wr.alloc (.cells #[.int .i64 x.price,.int .i64 x.dem,.int .i64 x.sup] 252)) wr.heap.size x:=heap_alloc_new wr _;have hbA:=bL0 wr (.cells #[.int .i64 x.price,.int .i64 x.dem,.int .i64 x.sup] 252);generalize wr.alloc (.cells #[.int .i64 x.price,.int .i64 x.dem,.int .i64 x.sup] 252)=W at hX hbA ⊢;generalize wr.heap.size=xb at hX ⊢;refine (HC.out W (aO0 HB.out hbA)).mono ?_;rintro e w4 ⟨rfl,hb4⟩;have hX4:=hX.below hb4;have HW4:Hid (w4.ownsRow w.heap.size 252 3 (.slice vao acc.length vcap) acc.length (ptV acc)):=iS0 HW.out (aO0 hbA hb4) lR7;have HB4:Hid (Below w.heap.size w w4):=aO0 HB.out (aO0 hbA hb4);clear hX hbA hb4 HW HB d0 d1 d2 HC;cases hq:q x with
   | true=>
    have HT2:Hid ((l.take (k+1)).filter q=acc++[x]):=by rw [HT.out,if_pos hq];rfl
    have y0:=aV0 (j:=0) hX4 rfl;have y1:=aV0 (j:=1) hX4 rfl;have y2:=aV0 (j:=2) hX4 rfl;clear HT hq hX4;go_wp2_with (at_builtin;refine wpList_append_own_at _ rfl _ _ 175 rfl w.heap.size 252 iP (.agg #[.int .i64 0,.int .i64 0,.int .i64 0]) 3 24 Tryz.underlying175 hiP hP0 hP1 hP2 rfl (by decide) _ acc.length (ptV acc) rfl (HW4.out.alloc _) ⟨w4.heap.size,0,none⟩ 1 1 [.int .i64 x.price,.int .i64 x.dem,.int .i64 x.sup] rfl rfl (World.news_of_block (cs:=#[.int .i64 x.price,.int .i64 x.dem,.int .i64 x.sup]) (t:=252) (fr:=(0,0)) (heap_alloc_new w4 _)) (by simp [Value.oneCell']) (by unfold maxLen;omega) (by omega) (by have:=HB4.out.size;simp;omega) ?_;intro v' w6 hown6 hgrow6 _ _);go_roundw
    case rel=>
     refine ⟨k+1,hk1,by go_num,?_,(HB4.out.alloc HB4.out.size _).grown hgrow6 (by have:=HB4.out.size;simp;omega) (fun q hq=>(HW4.out.lt q hq).1)⟩;rw [HT2.out,yD0,List.length_append,List.length_singleton];exact hown6
    case measure=>simp [intOf];omega
   | false=>
    have HT2:Hid ((l.take (k+1)).filter q=acc):=by rw [HT.out,if_neg (by rw [hq];decide)];rfl
    clear HT hq hX4;go_wp2_with fail;go_roundw
    case rel=>exact ⟨k+1,hk1,by go_num,by rw [HT2.out];exact HW4.out,HB4.out⟩
    case measure=>simp [intOf];omega
  ·obtain rfl:k=l.length:=by omega
   rw [List.take_length] at HW hbl ⊢;clear hb;go_wp2_with fail;go_ret;exact ⟨_,rfl,HW.out,HB.out⟩
set_option maxRecDepth 4000 in
set_option maxHeartbeats 1000000 in
theorem rR1 {g:Nat} {lb:Array Value} {f:Pt→Int} {l:List Pt} {w:World} (hN:NumFn g lb f l w) {nb tb:Nat} {top:Int} (h1:w.cell? ⟨nb,0,none⟩=some (.func (.func g) #[] lb)) (h2:w.cell? ⟨tb,0,none⟩=some (.int .i64 top)):
  BoolFn 249 #[.pointer (some ⟨nb,0,none⟩),.pointer (some ⟨tb,0,none⟩)] (fun x=>f x == top) l w:=by
 refine ⟨enters_of Tryz.func249 (by kernel_rfl) rfl,fun W hW x hx=>?_⟩;show Calls Tryz.prog 249 #[.agg #[.int .i64 x.price,.int .i64 x.dem,.int .i64 x.sup],.pointer (some ⟨nb,0,none⟩),.pointer (some ⟨tb,0,none⟩)] W _;have eg:=hN.enters;have hX:bF1 (W.alloc (.cells #[.int .i64 x.price,.int .i64 x.dem,.int .i64 x.sup] 252)) W.heap.size x:=heap_alloc_new W _;have hb1:=bL0 W (.cells #[.int .i64 x.price,.int .i64 x.dem,.int .i64 x.sup] 252);have c1:=bN0 hb1 (bN0 hW h1);have c2:=bN0 hb1 (bN0 hW h2);have HB1:Hid (Below W.heap.size W (W.alloc (.cells #[.int .i64 x.price,.int .i64 x.dem,.int .i64 x.sup] 252))):=hb1
 have cN:∀dq os,Calls Tryz.prog g (#[.agg #[.int .i64 x.price,.int .i64 x.dem,.int .i64 x.sup]]++lb) (Go.Sort.grow (redrawn (W.alloc (.cells #[.int .i64 x.price,.int .i64 x.dem,.int .i64 x.sup] 252)) dq) os) fun e w''=>e=.returned (.int .i64 (f x))∧∃q:Regrown,w''=Go.Sort.grow (redrawn (W.alloc (.cells #[.int .i64 x.price,.int .i64 x.dem,.int .i64 x.sup] 252)) q.d) q.os:=fun dq os=>
  Calls.regrown_of (hN.tells _ (aO0 (aO0 hW hb1) (below_regrown ..)) x hx)
 clear hN hW h1 h2 hb1;go_enter Tryz.func249,Tryz.ntmps249;go_wp2_with fail;generalize W.alloc (.cells #[.int .i64 x.price,.int .i64 x.dem,.int .i64 x.sup] 252)=V at hX HB1 c1 c2 cN ⊢;generalize hsz:W.heap.size=xb at hX HB1 ⊢;have k0:=cell_regrown (aV0 (j:=0) hX rfl);have k1:=cell_regrown (aV0 (j:=1) hX rfl);have k2:=cell_regrown (aV0 (j:=2) hX rfl);have k3:=cell_regrown c1;have k4:=cell_regrown c2;clear hX c1 c2;refine wp_region_quiet_below (by kernel_rfl) (by kernel_rfl) ?_
 repeat (go_big_quiet_step (exact cN _ _))
 refine wpQuiet_nil ?_;intro _ hw';obtain ⟨⟨dq,osq⟩,hw''⟩:=hw';subst hw'';go_wp2;go_ret;subst hsz;exact ⟨rfl,aO0 HB1.out (below_regrown ..)⟩
set_option maxHeartbeats 1000000 in
theorem pD1 {g:Nat} {lb:Array Value} {f:Pt→Int} {l:List Pt} {w:World} (hN:NumFn g lb f l w) {nb:Nat} (h1:w.cell? ⟨nb,0,none⟩=some (.func (.func g) #[] lb)) (hf:∀x∈l,-9000000000000000000≤f x∧f x≤9000000000000000000):
  NumFn 250 #[.pointer (some ⟨nb,0,none⟩)] (fun x=>-f x) l w:=by
 refine ⟨enters_of Tryz.func250 (by kernel_rfl) rfl,fun W hW x hx=>?_⟩;show Calls Tryz.prog 250 #[.agg #[.int .i64 x.price,.int .i64 x.dem,.int .i64 x.sup],.pointer (some ⟨nb,0,none⟩)] W _;have eg:=hN.enters;have c1:=bN0 (bL0 W (.cells #[.int .i64 x.price,.int .i64 x.dem,.int .i64 x.sup] 252)) (bN0 hW h1);obtain ⟨f1,f2⟩:=hf x hx;have HC:Hid (∀V,Below W.heap.size W V→Calls Tryz.prog g (#[.agg #[.int .i64 x.price,.int .i64 x.dem,.int .i64 x.sup]]++lb) V fun e W'=>e=.returned (.int .i64 (f x))∧Below V.heap.size V W'):=fun V hV=>hN.tells V (aO0 hW hV) x hx
 clear hN hW h1 hf;generalize f x=z at f1 f2 HC ⊢;go_enter Tryz.func250,Tryz.ntmps250;go_wp2_with fail;refine (HC.out _ (bL0 W _)).mono ?_;rintro e w3 ⟨rfl,hb3⟩;have HB3:Hid (Below W.heap.size W w3):=aO0 (bL0 W _) hb3;clear hb3;go_wp2_with fail;go_ret;exact ⟨rfl,HB3.out⟩
set_option maxRecDepth 4000 in
set_option maxHeartbeats 4000000 in
theorem gA1 (a:Option Addr) (cap:Nat) (l:List Pt) (g:Nat) (lb:Array Value) (f:Pt→Int) (w:World) (h:hU0 w a l) (hl:l.length≤1000) (hf:NumFn g lb f l w):
  Calls Tryz.prog 179 #[.slice a l.length cap,.func (.func g) #[] lb] w fun e w'=>∃v',e=.returned v'∧w'.ownsRow w.heap.size 252 3 v' (dT0 f l).length (ptV (dT0 f l))∧Below w.heap.size w w':=by
 have HA:Hid (hU0 w a l):=h;have HF:Hid (NumFn g lb f l w):=hf;have eg:=hf.enters;have hbA:=bL0 w (.cells #[.func (.func g) #[] lb] 250);have hN:(w.alloc (.cells #[.func (.func g) #[] lb] 250)).heap[w.heap.size]? = _:=heap_alloc_new w _;clear h hf
 by_cases h0:0<l.length
 ·obtain ⟨b,off,rfl,d0,d1,d2⟩:=HA.out.below hbA 0 h0;have hlen:((l.length:Int) == 0)=false:=beq_eq_false_iff_ne.2 (by omega);have hlt:(0:Int)<(l.length:Int):=by omega
  go_enter Tryz.func179,Tryz.ntmps179;go_upto_region 3 with fail;have HBA:Hid (Below w.heap.size w (w.alloc (.cells #[.func (.func g) #[] lb] 250))):=hbA;have HC:Hid (∀W,Below w.heap.size w W→Calls Tryz.prog g (#[.agg #[.int .i64 (ptAt l 0).price,.int .i64 (ptAt l 0).dem,.int .i64 (ptAt l 0).sup]]++lb) W fun e W'=>e=.returned (.int .i64 (f (ptAt l 0)))∧Below W.heap.size W W'):=fun W hW=>HF.out.tells W hW _ (cA0 h0)
  have HN:Hid ((w.alloc (.cells #[.func (.func g) #[] lb] 250)).heap[w.heap.size]? = some (.cells #[.func (.func g) #[] lb] 250 (0,0))):=hN;have n0:=aV0 (j:=0) hN rfl;have HTOP:Hid (f (ptAt l 0)=topF f (f (ptAt l 0)) (l.take 0)):=rfl;have HZ0:Hid (dT0 f l=l.filter fun x=>f x == topF f (f (ptAt l 0)) l):=rfl;generalize f (ptAt l 0)=z0 at HC HTOP HZ0;generalize ptAt l 0=x0 at d0 d1 d2 HC;generalize w.alloc (.cells #[.func (.func g) #[] lb] 250)=V at d0 d1 d2 HBA HN n0 ⊢;clear hbA hN hlen;rw [Nat.zero_mul,Nat.add_zero] at d0 d1 d2;go_cut [5] from 11 to 15 (fun v wc=>∃tb:Nat,v=.pointer (some ⟨tb,0,none⟩)∧V.heap.size≤tb∧wc.heap[tb]? = some (.cells #[.int .i64 z0] 3 (0,0))∧Below V.heap.size V wc)
  case first=>
   have HS:Hid (∀w',Below V.heap.size V w'→w'.cell? ⟨w.heap.size,0,none⟩=some (.func (.func g) #[] lb)∧w'.cell? ⟨b,off,none⟩=some (.int .i64 x0.price)∧w'.cell? ⟨b,off+1,none⟩=some (.int .i64 x0.dem)∧w'.cell? ⟨b,off+2,none⟩=some (.int .i64 x0.sup)∧Below V.heap.size V w'):=fun w' hb=>⟨bN0 hb n0,bN0 hb d0,bN0 hb d1,bN0 hb d2,hb⟩
   go_region_held3 (fun w'=>w'.cell? ⟨w.heap.size,0,none⟩=some (.func (.func g) #[] lb)∧w'.cell? ⟨b,off,none⟩=some (.int .i64 x0.price)∧w'.cell? ⟨b,off+1,none⟩=some (.int .i64 x0.dem)∧w'.cell? ⟨b,off+2,none⟩=some (.int .i64 x0.sup)∧Below V.heap.size V w')
    ((refine HS.out _ ?_;(repeat' first | assumption | exact Below.refl _ _ | exact lR7 | refine Below.drew ?_ | refine Below.alloc ?_ ?_ _ | refine aO0 ?_ hb1 | refine Below.setCell ?_ ?_ _ | (simp;done) | (simp;omega) | (have h9:=hb1.size;simp at h9 ⊢;omega))))
    (first | (go_at_fn g;refine (HC.out _ ?_).mono ?_;(refine aO0 HBA.out ?_;go_split_ands;assumption);rintro e w5 ⟨rfl,hb1⟩;first | (have t5:w5.heap[V.heap.size]? = some (.cells #[.int .i64 0] 3 (0,0)):=fH0 (heap_alloc_new V.drew _) hb1;have c5:=aV0 (j:=0) t5 rfl;have f5:=eL0 (j:=0) t5) | skip))
   ·have HR:Hid (Below V.heap.size V (w5.alloc (.cells #[.int .i64 z0] 3))):=by go_split_ands;assumption
    have HZ:Hid (V.heap.size≤w5.heap.size):=hb1.size;go_wp2_with fail;go_meet;exact ⟨_,rfl,HZ.out,heap_alloc_new w5 _,HR.out⟩
   ·have HR:Hid (Below V.heap.size V (w5.setCell ⟨V.heap.size,0,none⟩ (.int .i64 z0))):=by go_split_ands;assumption
    have HZ:Hid _:=t5;go_wp2_with fail;go_meet;exact ⟨_,rfl,lR7,gJ0 (j:=0) _ HZ.out,HR.out⟩
  case rest=>
   obtain ⟨tb,rfl,htb,hT,hBV⟩:=hcut;have HT0:Hid (wc.heap[tb]? = some (.cells #[.int .i64 (topF f z0 (l.take 0))] 3 (0,0))):=by rw [←HTOP.out];exact hT
   have HN0:Hid (wc.heap[w.heap.size]? = some (.cells #[.func (.func g) #[] lb] 250 (0,0))):=fH0 HN.out hBV;have HB0:Hid (Below w.heap.size w wc):=aO0 HBA.out hBV;have htb':w.heap.size<tb:=Nat.lt_of_lt_of_le (lt_of_block HN.out) htb;clear hT hBV HBA HN htb HC d0 d1 d2 n0 HTOP;go_wp2_with fail;go_loopw [18] (fun i wr=>∃k:Nat,k≤l.length∧i=.int .i64 k∧wr.heap[tb]? = some (.cells #[.int .i64 (topF f z0 (l.take k))] 3 (0,0))∧wr.heap[w.heap.size]? = some (.cells #[.func (.func g) #[] lb] 250 (0,0))∧Below w.heap.size w wr) (fun i _=>l.length - (intOf i).toNat)
   case atStart=>exact ⟨0,Nat.zero_le _,rfl,HT0.out,HN0.out,HB0.out⟩
   case round=>
    obtain ⟨k,hk,rfl,hT,hN,hb⟩:=hrel;clear HT0 HN0 HB0;have HB:Hid (Below w.heap.size w wr):=hb
    by_cases hk1:k<l.length
    ·have hklt:(k:Int)<(l.length:Int):=by omega
     obtain ⟨b',off',he,d0,d1,d2⟩:=HA.out.below hb k hk1;obtain ⟨rfl,rfl⟩:b=b'∧off=off':=by simpa using he
     have HTK:Hid (topF f z0 (l.take (k+1))=max (topF f z0 (l.take k)) (f (ptAt l k))):=fU1 hk1;have HC:Hid (∀W,Below w.heap.size w W→Calls Tryz.prog g (#[.agg #[.int .i64 (ptAt l k).price,.int .i64 (ptAt l k).dem,.int .i64 (ptAt l k).sup]]++lb) W fun e W'=>e=.returned (.int .i64 (f (ptAt l k)))∧Below W.heap.size W W'):=fun W hW=>HF.out.tells W hW _ (cA0 hk1)
     generalize f (ptAt l k)=z at HTK HC;generalize ptAt l k=x at d0 d1 d2 HC;generalize topF f z0 (l.take k)=m at HTK hT;clear hb he;go_upto_region 7 with fail;have hX:bF1 (wr.alloc (.cells #[.int .i64 x.price,.int .i64 x.dem,.int .i64 x.sup] 252)) wr.heap.size x:=heap_alloc_new wr _;have hbA:=bL0 wr (.cells #[.int .i64 x.price,.int .i64 x.dem,.int .i64 x.sup] 252);have hxt:wr.heap.size≠tb:=fun e=>by have:=lt_of_block hT;omega
     generalize wr.alloc (.cells #[.int .i64 x.price,.int .i64 x.dem,.int .i64 x.sup] 252)=V2 at hX hbA ⊢;generalize wr.heap.size=xb at hX hxt ⊢;have HB2:Hid (Below w.heap.size w V2):=aO0 HB.out hbA;have hT2:=fH0 hT hbA;have hN2:=fH0 hN hbA;have HN2:Hid (V2.heap[w.heap.size]? = some (.cells #[.func (.func g) #[] lb] 250 (0,0))):=hN2;have t2:=aV0 (j:=0) hT2 rfl;clear hT hN hbA HB d0 d1 d2;have n2:=aV0 (j:=0) hN2 rfl;have x0:=aV0 (j:=0) hX rfl;have x1:=aV0 (j:=1) hX rfl;have x2:=aV0 (j:=2) hX rfl;have HT2:Hid (V2.heap[tb]? = some (.cells #[.int .i64 m] 3 (0,0))):=hT2;clear hT2 hN2 hX;go_region_with (go_at_fn g;refine (HC.out _ ?_).mono ?_;(refine aO0 HB2.out ?_;(repeat' first | assumption | exact Below.refl _ _ | exact lR7 | refine Below.drew ?_ | refine Below.alloc ?_ ?_ _ | (simp;done) | (simp;omega)));rintro e w5 ⟨rfl,hb1⟩;(have t5:w5.heap[tb]? = some (.cells #[.int .i64 m] 3 (0,0)):=fH0 (w:=V2.drew) HT2.out hb1;have c5:=aV0 (j:=0) t5 rfl;have f5:=eL0 (j:=0) t5))
     all_goals
      have HT5:Hid (w5.heap[tb]? = some (.cells #[.int .i64 m] 3 (0,0))):=t5;have HB5:Hid (Below w.heap.size w w5):=aO0 (w1:=V2.drew) HB2.out.drew hb1;have HN5:Hid (w5.heap[w.heap.size]? = some (.cells #[.func (.func g) #[] lb] 250 (0,0))):=fH0 (w:=V2.drew) HN2.out hb1;clear hb1 t5 c5 f5 t2 n2 x0 x1 x2;go_wp2_with fail;go_roundw
      case rel=>exact ⟨k+1,hk1,by go_num,by rw [HTK.out];exact gJ0 (j:=0) _ HT5.out,(Below.heap_setCell _ _ _ _ (Nat.ne_of_lt htb')).trans HN5.out,HB5.out.setCell (Nat.le_of_lt htb') _⟩
      case measure=>simp [intOf];omega
    ·obtain rfl:k=l.length:=by omega
     rw [List.take_length] at hT
     have HK:Hid (∀ca,Calls Tryz.prog 248 #[.slice (some ⟨b,off,none⟩) l.length ca,.func (.func 249) #[] #[.pointer (some ⟨w.heap.size,0,none⟩),.pointer (some ⟨tb,0,none⟩)]] wr fun e w'=>∃v',e=.returned v'∧w'.ownsRow wr.heap.size 252 3 v' (l.filter fun x=>f x == topF f z0 l).length (ptV (l.filter fun x=>f x == topF f z0 l))∧Below wr.heap.size wr w'):=fun ca=>
      mW1 _ ca l _ _ _ wr (HA.out.below hb) hl (rR1 (HF.out.later hb) (aV0 (j:=0) hN rfl) (aV0 (j:=0) hT rfl))
     clear hb hT hN;go_wp2_with fail;refine (HK.out _).mono ?_;rintro e w9 ⟨v',rfl,hown,hb9⟩;have HO:Hid (w9.ownsRow w.heap.size 252 3 v' (dT0 f l).length (ptV (dT0 f l))):=by rw [HZ0.out];exact cB0 hown HB.out.size
     have HB9:Hid (Below w.heap.size w w9):=aO0 HB.out hb9;clear hown hb9;go_wp2_with fail;go_ret;exact ⟨_,rfl,HO.out,HB9.out⟩
 ·have hlen:((l.length:Int) == 0)=true:=beq_iff_eq.2 (by omega)
  have HE:Hid (dT0 f l=[]):=by
   obtain rfl:l=[]:=List.length_eq_zero_iff.1 (by omega);rfl
  go_enter Tryz.func179,Tryz.ntmps179;go_wp2_with fail;go_ret;refine ⟨_,rfl,?_,hbA⟩;rw [HE.out];exact World.ownsRow_nil _ _ _ _
set_option maxHeartbeats 1000000 in
theorem rW0 (a:Option Addr) (cap:Nat) (l:List Pt) (g:Nat) (lb:Array Value) (f:Pt→Int) (w:World) (h:hU0 w a l) (hl:l.length≤1000) (hf:NumFn g lb f l w) (hfb:∀x∈l,-9000000000000000000≤f x∧f x≤9000000000000000000):
  Calls Tryz.prog 181 #[.slice a l.length cap,.func (.func g) #[] lb] w fun e w'=>∃v',e=.returned v'∧w'.ownsRow w.heap.size 252 3 v' (bI0 f l).length (ptV (bI0 f l))∧Below w.heap.size w w':=by
 have hbA:=bL0 w (.cells #[.func (.func g) #[] lb] 250);have hN:(w.alloc (.cells #[.func (.func g) #[] lb] 250)).heap[w.heap.size]? = _:=heap_alloc_new w _
 have HM:Hid (∀ca,Calls Tryz.prog 179 #[.slice a l.length ca,.func (.func 250) #[] #[.pointer (some ⟨w.heap.size,0,none⟩)]] (w.alloc (.cells #[.func (.func g) #[] lb] 250)) fun e w'=>∃v',e=.returned v'∧w'.ownsRow (w.alloc (.cells #[.func (.func g) #[] lb] 250)).heap.size 252 3 v' (bI0 f l).length (ptV (bI0 f l))∧Below (w.alloc (.cells #[.func (.func g) #[] lb] 250)).heap.size (w.alloc (.cells #[.func (.func g) #[] lb] 250)) w'):=fun ca=>
  gA1 a ca l _ _ (fun x=>-f x) _ (h.below hbA) hl (pD1 (hf.later hbA) (aV0 (j:=0) hN rfl) hfb)
 clear hN h hf;go_enter Tryz.func181,Tryz.ntmps181;go_wp2_with fail;refine (HM.out _).mono ?_;rintro e w9 ⟨v',rfl,hown,hb9⟩;have HO:Hid (w9.ownsRow w.heap.size 252 3 v' (bI0 f l).length (ptV (bI0 f l))):=cB0 hown hbA.size;have HB9:Hid (Below w.heap.size w w9):=aO0 hbA hb9;clear hown hb9 hbA;go_wp2_with fail;go_ret;exact ⟨_,rfl,HO.out,HB9.out⟩
set_option maxHeartbeats 1000000 in
theorem rS1 (a:Option Addr) (cap:Nat) (l:List Pt) (g:Nat) (lb:Array Value) (q:Pt→Bool) (w:World) (h:hU0 w a l) (hl:l.length≤1000) (hf:BoolFn g lb q l w):
  Calls Tryz.prog 185 #[.slice a l.length cap,.func (.func g) #[] lb] w fun e w'=>e=.returned (.bool (allP q l))∧Below w.heap.size w w':=by
 have HK:Hid (∀ca,Calls Tryz.prog 248 #[.slice a l.length ca,.func (.func g) #[] lb] w fun e w'=>∃v',e=.returned v'∧w'.ownsRow w.heap.size 252 3 v' (l.filter q).length (ptV (l.filter q))∧Below w.heap.size w w'):=fun ca=>mW1 a ca l g lb q w h hl hf
 have HP:Hid (allP q l=(((l.filter q).length:Int) == (l.length:Int))):=rfl;clear h hf;go_enter Tryz.func185,Tryz.ntmps185;go_wp2_with fail;refine (HK.out _).mono ?_;rintro e w9 ⟨v',rfl,hown,hb9⟩;obtain ⟨ao,vcap,rfl,_,_⟩:=fN0 hown;clear hown;go_wp2_with fail;go_ret;exact ⟨by rw [HP.out];rfl,hb9⟩
set_option maxHeartbeats 1000000 in
theorem rX0 (x:Pt) (w:World):
  Calls Tryz.prog 180 #[.agg #[.int .i64 x.price,.int .i64 x.dem,.int .i64 x.sup]] w fun e w'=>e=.returned (.int .i64 (trB x))∧Below w.heap.size w w':=by
 have HT:Hid (trB x=min x.dem x.sup):=rfl;go_enter Tryz.func180,Tryz.ntmps180;go_wp2;go_ret;exact ⟨by rw [HT.out];first | rfl | (congr 2;omega),bL0 w _⟩
set_option maxHeartbeats 1000000 in
theorem oZ0 (x:Pt) (hx:x.Small) (w:World):
  Calls Tryz.prog 187 #[.agg #[.int .i64 x.price,.int .i64 x.dem,.int .i64 x.sup]] w fun e w'=>e=.returned (.int .i64 (surB x))∧Below w.heap.size w w':=by
 have HT:Hid (surB x=x.dem - x.sup):=rfl;obtain ⟨_,⟨hd1,hd2⟩,⟨hs1,hs2⟩⟩:=hx;go_enter Tryz.func187,Tryz.ntmps187;go_wp2;go_ret;exact ⟨by rw [HT.out];rfl,bL0 w _⟩
set_option maxHeartbeats 1000000 in
theorem gB1 (a b:Int) (ha:-1099511627776≤a∧a≤1099511627776) (hb:-1099511627776≤b∧b≤1099511627776) (w:World):
  Calls Tryz.prog 183 #[.int .i64 a,.int .i64 b] w fun e w'=>e=.returned (.int .i64 (apB a b))∧w'=w:=by
 have HT:Hid (apB a b=max a b - min a b):=rfl;obtain ⟨ha1,ha2⟩:=ha;obtain ⟨hb1,hb2⟩:=hb;go_enter Tryz.func183,Tryz.ntmps183;go_wp2;go_ret;exact ⟨by rw [HT.out];rfl,rfl⟩
theorem kX1 (l:List Pt) (w:World):NumFn 180 #[] trB l w:=
 ⟨enters_of Tryz.func180 (by kernel_rfl) rfl,fun W _ x _=>rX0 x W⟩
set_option maxHeartbeats 1000000 in
theorem rT1 {l:List Pt} (hs:∀x∈l,x.Small) (w:World):NumFn 182 #[] lfP l w:=by
 refine ⟨enters_of Tryz.func182 (by kernel_rfl) rfl,fun W _ x hx=>?_⟩;show Calls Tryz.prog 182 #[.agg #[.int .i64 x.price,.int .i64 x.dem,.int .i64 x.sup]] W _;have HT:Hid (lfP x=apB x.dem x.sup):=rfl;have HX:Hid x.Small:=hs x hx;clear hs hx;go_enter Tryz.func182,Tryz.ntmps182;go_wp2_with fail;refine (gB1 _ _ HX.out.d HX.out.s _).mono ?_;rintro e w5 ⟨rfl,hw⟩;subst hw;go_wp2_with fail;go_ret;exact ⟨by rw [HT.out];rfl,bL0 W _⟩
set_option maxHeartbeats 1000000 in
theorem wX0 (l:List Pt) (w:World):NumFn 184 #[] Pt.price l w:=by
 refine ⟨enters_of Tryz.func184 (by kernel_rfl) rfl,fun W _ x hx=>?_⟩;show Calls Tryz.prog 184 #[.agg #[.int .i64 x.price,.int .i64 x.dem,.int .i64 x.sup]] W _;go_enter Tryz.func184,Tryz.ntmps184;go_wp2_with fail;go_ret;exact ⟨rfl,bL0 W _⟩
set_option maxHeartbeats 1000000 in
theorem fnUp {l:List Pt} (hs:∀x∈l,x.Small) (w:World):BoolFn 186 #[] upB l w:=by
 refine ⟨enters_of Tryz.func186 (by kernel_rfl) rfl,fun W _ x hx=>?_⟩;show Calls Tryz.prog 186 #[.agg #[.int .i64 x.price,.int .i64 x.dem,.int .i64 x.sup]] W _;have HT:Hid (upB x=decide (surB x>0)):=rfl;have HX:Hid x.Small:=hs x hx;clear hs hx;go_enter Tryz.func186,Tryz.ntmps186;go_wp2_with fail;refine (oZ0 x HX.out _).mono ?_;rintro e w5 ⟨rfl,hb⟩;have HB:Hid (Below W.heap.size W w5):=aO0 (bL0 W _) hb;clear hb;go_wp2_with fail;go_ret;exact ⟨by rw [HT.out];rfl,HB.out⟩
set_option maxHeartbeats 1000000 in
theorem rU1 {l:List Pt} (hs:∀x∈l,x.Small) (w:World):BoolFn 188 #[] iM0 l w:=by
 refine ⟨enters_of Tryz.func188 (by kernel_rfl) rfl,fun W _ x hx=>?_⟩;show Calls Tryz.prog 188 #[.agg #[.int .i64 x.price,.int .i64 x.dem,.int .i64 x.sup]] W _;have HT:Hid (iM0 x=decide (surB x<0)):=rfl;have HX:Hid x.Small:=hs x hx;clear hs hx;go_enter Tryz.func188,Tryz.ntmps188;go_wp2_with fail;refine (oZ0 x HX.out _).mono ?_;rintro e w5 ⟨rfl,hb⟩;have HB:Hid (Below W.heap.size W w5):=aO0 (bL0 W _) hb;clear hb;go_wp2_with fail;go_ret;exact ⟨by rw [HT.out];rfl,HB.out⟩
set_option maxHeartbeats 1000000 in
theorem rV1 {l:List Pt} (hs:∀x∈l,x.Small) {w:World} {ab:Nat} {around:Int} (ha:-1099511627776≤around∧around≤1099511627776) (hc:w.cell? ⟨ab,0,none⟩=some (.int .i64 around)):NumFn 189 #[.pointer (some ⟨ab,0,none⟩)] (fQ0 around) l w:=by
 refine ⟨enters_of Tryz.func189 (by kernel_rfl) rfl,fun W hW x hx=>?_⟩;show Calls Tryz.prog 189 #[.agg #[.int .i64 x.price,.int .i64 x.dem,.int .i64 x.sup],.pointer (some ⟨ab,0,none⟩)] W _;have HT:Hid (fQ0 around x=apB x.price around):=rfl;have HX:Hid x.Small:=hs x hx;have c1:=bN0 (bL0 W (.cells #[.int .i64 x.price,.int .i64 x.dem,.int .i64 x.sup] 252)) (bN0 hW hc);clear hs hx hW hc;go_enter Tryz.func189,Tryz.ntmps189;go_wp2_with fail;refine (gB1 _ _ HX.out.p ha _).mono ?_;rintro e w5 ⟨rfl,hw⟩;subst hw;go_wp2_with fail;go_ret;exact ⟨by rw [HT.out];rfl,bL0 W _⟩
end Go.Proofs.YtaelphbianmckaaGreatDoor
