/- A part of the proof of EnginePlays. -/
import Derived.Test.YtjdkagafdnchhaaGreatDoorPA
import Derived.Test.YtjdkagafdnchhaaGreatDoorPM
import Derived.Deep.Cut
import Derived.Deep.CutRange
import Derived.Test.YtjdkagafdnchhaaGreatDoorPG
import Derived.Deep.RegionHeld3
import Derived.Lib.QuietBelow
import Derived.Deep.CutBlock
import Derived.Test.YtjdkagafdnchhaaGreatDoorPH
import Derived.BigRegion
import Derived.Deep.RegionWith
import Derived.Test.YtjdkagafdnchhaaGreatDoorPF
import Derived.WalkKit
import Derived.WalkSpells
import Derived.WalkLawsBesides
import Derived.Handy
namespace Go.Proofs.YtjdkagafdnchhaaGreatDoor
open Go.RowKit
set_option maxRecDepth 4000 in
set_option maxHeartbeats 4000000 in
theorem pA1 (a:Option Addr) (cap:Nat) (l:List Ord) (more:Int) (w:World) (h:cR0 w a l) (hl:l.length≤1000):
  Calls Tryz.prog 105 #[.slice a l.length cap,.int .i64 more] w fun e w'=>∃v',e=.returned v'∧w'.ownsRow w.heap.size 238 3 v' (aR0 l more).length (ptV (aR0 l more))∧Below w.heap.size w w':=by
 obtain ⟨iI,hiI,hI0,hI1,hI2⟩:=info_parts Tryz.infoInt;obtain ⟨iP,hiP,hP0,hP1,hP2⟩:=info_parts Tryz.infoPt;have HA:Hid (cR0 w a l):=h;clear h;go_enter Tryz.func105,Tryz.ntmps105;go_upto_if 16 with fail;go_cut [5] from 15 to 20 (fun v wc=>wc.ownsRow w.heap.size 3 1 v (cA0 l more 0).length (ints (cA0 l more 0))∧Below w.heap.size w wc)
 case first=>
  by_cases hm:0<more
  ·have HM:Hid (cA0 l more 0=[more]):=xG0 hm;go_wp2_with (at_builtin;refine wpList_append_own_at _ rfl _ _ 65 rfl w.heap.size 3 iI (.int .i64 0) 1 8 Tryz.underlying65 hiI hI0 hI1 hI2 rfl (by decide) _ 0 [] rfl (World.ownsRow_nil _ _ _ _) ⟨w.heap.size,0,none⟩ 1 1 [.int .i64 more] rfl rfl (World.news_of_block (cs:=#[.int .i64 more]) (t:=3) (fr:=(0,0)) (heap_alloc_new w _)) (by simp [Value.oneCell']) (by unfold maxLen;omega) (by omega) (by simp) ?_;intro v' w6 hown6 hgrow6 _ _);go_meet;exact ⟨by rw [HM.out];exact hown6,(bD0 w _).grown hgrow6 (by simp) (fun q hq=>by cases hq)⟩
  ·have HM:Hid (cA0 l more 0=[]):=xH0 hm;go_wp2_with fail;go_meet;exact ⟨by rw [HM.out];exact World.ownsRow_nil _ _ _ _,Below.refl _ _⟩
 case rest=>
  obtain ⟨ho,hb⟩:=hcut;have HO:Hid (wc.ownsRow w.heap.size 3 1 u5 (cA0 l more 0).length (ints (cA0 l more 0))):=ho;have HB:Hid (Below w.heap.size w wc):=hb;clear ho hb;go_wp2_with fail;go_loopw [5,23] (fun v i wr=>∃k:Nat,k≤l.length∧i=.int .i64 k∧wr.ownsRow w.heap.size 3 1 v (cA0 l more k).length (ints (cA0 l more k))∧Below w.heap.size w wr) (fun _ i _=>l.length - (intOf i).toNat)
  case atStart=>exact ⟨0,Nat.zero_le _,rfl,HO.out,HB.out⟩
  case round=>
   obtain ⟨k,hk,rfl,hown,hb⟩:=hrel;have HW:Hid (wr.ownsRow w.heap.size 3 1 u5 (cA0 l more k).length (ints (cA0 l more k))):=hown;have HB1:Hid (Below w.heap.size w wr):=hb;have hlen:=xI0 l more k hk;obtain ⟨vao,vcap,rfl,_,_⟩:=aW0 hown;clear HO HB
   by_cases hk1:k<l.length
   ·have hlt:(k:Int)<(l.length:Int):=by omega
    obtain ⟨b,off,rfl,d0,d1,d2,d3,d4⟩:=HA.out.below hb k hk1;have HT:Hid (cA0 l more (k+1)=if cZ0 (oAt l k)=true then cA0 l more k++[(oAt l k).price] else cA0 l more k):=uL0 more hk1;clear hown hb;generalize oAt l k=o at d0 d1 d2 d3 d4 HT;generalize cA0 l more k=xs at HW HT hlen;go_wp2_with fail;have hA:=heap_alloc_new wr (.cells #[.int .i64 o.id,.int .i64 o.side,.int .i64 o.kind,.int .i64 o.price,.int .i64 o.qty] 41);have hbA:=bD0 wr (.cells #[.int .i64 o.id,.int .i64 o.side,.int .i64 o.kind,.int .i64 o.price,.int .i64 o.qty] 41);generalize wr.alloc (.cells #[.int .i64 o.id,.int .i64 o.side,.int .i64 o.kind,.int .i64 o.price,.int .i64 o.qty] 41)=W at hA hbA ⊢;generalize wr.heap.size=x at hA ⊢;refine (cuOk o W).mono ?_;rintro e w3 ⟨rfl,hb3⟩;have hA3:=eA0 hA hb3;have hb03:=aS0 hbA hb3;have HW3:Hid (w3.ownsRow w.heap.size 3 1 (.slice vao xs.length vcap) xs.length (ints xs)):=cB0 HW.out hb03 lR7;have HB3:Hid (Below w.heap.size w w3):=aS0 HB1.out hb03;clear hA hbA hb3 hb03 HW HB1 d0 d1 d2 d3 d4;have e2:=aP0 (j:=2) hA3 rfl;have e3:=aP0 (j:=3) hA3 rfl;clear hA3;cases hn:cZ0 o with
    | true=>
     have hn2:okO o=true∧o.kind≠2:=by unfold cZ0 at hn;simpa using hn
     have HT2:Hid (cA0 l more (k+1)=xs++[o.price]):=by rw [HT.out,if_pos hn];rfl
     have hk2:(o.kind == 2)=false:=beq_eq_false_iff_ne.2 hn2.2;rw [hn2.1];clear hn hn2 HT;go_wp2_with (at_builtin;refine wpList_append_own_at _ rfl _ _ 65 rfl w.heap.size 3 iI (.int .i64 0) 1 8 Tryz.underlying65 hiI hI0 hI1 hI2 rfl (by decide) _ xs.length (ints xs) rfl (HW3.out.alloc _) ⟨w3.heap.size,0,none⟩ 1 1 [.int .i64 o.price] rfl rfl (World.news_of_block (cs:=#[.int .i64 o.price]) (t:=3) (fr:=(0,0)) (heap_alloc_new w3 _)) (by simp [Value.oneCell']) (by unfold maxLen;omega) (by omega) (by have:=HB3.out.size;simp;omega) ?_;intro v' w6 hown6 hgrow6 _ _);go_roundw
     case rel=>
      refine ⟨k+1,hk1,by go_num,?_,(HB3.out.alloc HB3.out.size _).grown hgrow6 (by have:=HB3.out.size;simp;omega) (fun q hq=>(HW3.out.lt q hq).1)⟩;rw [HT2.out,fB1,List.length_append,List.length_singleton];exact hown6
     case measure=>simp [intOf];omega
    | false=>
     have HT2:Hid (cA0 l more (k+1)=xs):=by rw [HT.out,if_neg (by rw [hn];decide)];rfl
     cases hok:okO o with
     | false=>
      clear hn HT hok;go_wp2_with fail;go_roundw
      case rel=>exact ⟨k+1,hk1,by go_num,by rw [HT2.out];exact HW3.out,HB3.out⟩
      case measure=>simp [intOf];omega
     | true=>
      have hk2:o.kind=2:=by unfold cZ0 at hn;rw [hok] at hn;simpa using hn
      rw [hk2] at e2;clear hn HT hok hk2;go_wp2_with fail;go_roundw
      case rel=>exact ⟨k+1,hk1,by go_num,by rw [HT2.out];exact HW3.out,HB3.out⟩
      case measure=>simp [intOf];omega
   ·obtain rfl:k=l.length:=by omega
    have hx:cA0 l more l.length=bA0 l more:=by unfold cA0;rw [List.take_length]
    rw [hx] at hlen HW;rw [hx];clear hown hb hx;have HC:Hid (aR0 l more=(sG0 (eJ0 (bA0 l more))).map (ptOf l)):=rfl;generalize bA0 l more=xs at hlen HW HC ⊢;go_wp2_with fail;refine (rP1 HW.out (by omega)).mono ?_;rintro e w2 ⟨rfl,hs2,hg2⟩;have hb2:Below w.heap.size w w2:=HB1.out.grown hg2 HB1.out.size (fun q hq=>(HW.out.lt q hq).1);have HW2:Hid (w2.ownsRow w.heap.size 3 1 (.slice vao xs.length vcap) xs.length (ints (eJ0 xs))):=hs2;have HB2:Hid (Below w.heap.size w w2):=hb2;clear hs2 hg2 hb2 HW HB1;have hsl:=fX0 xs;obtain ⟨ys,hys⟩:∃ys,eJ0 xs=ys:=⟨_,rfl⟩;rw [hys] at HW2 HC hsl;have hxl:xs.length=ys.length:=hsl.symm;rw [hxl] at HW2 hlen ⊢;clear hys hsl hxl;go_wp2_with fail;go_loopw [9,45] (fun v i wr=>∃k:Nat,k≤ys.length∧i=.int .i64 k∧wr.ownsRow w2.heap.size 238 3 v (dJ0 ys k).length (ptV ((dJ0 ys k).map (ptOf l)))∧Below w2.heap.size w2 wr) (fun _ i _=>ys.length - (intOf i).toNat)
    case atStart=>exact ⟨0,Nat.zero_le _,rfl,World.ownsRow_nil _ _ _ _,Below.refl _ _⟩
    case round=>
     obtain ⟨k,hk,rfl,hown,hb⟩:=hrel;have HWo:Hid (wr.ownsRow w2.heap.size 238 3 u9 (dJ0 ys k).length (ptV ((dJ0 ys k).map (ptOf l)))):=hown;have HBo:Hid (Below w2.heap.size w2 wr):=hb;have hul:=oP0 ys k;obtain ⟨oao,ocap,rfl,_,_⟩:=aW0 hown
     by_cases hk1:k<ys.length
     ·have hlt:(k:Int)<(ys.length:Int):=by omega
      have hrow:=cB0 HW2.out hb lR7;obtain ⟨g,cap',hv,_,_⟩:=hrow.form (by omega);simp only [Value.slice.injEq,true_and] at hv;obtain ⟨rfl,rfl⟩:=hv;have c0:wr.cell? ⟨g,k,none⟩=some (.int .i64 (ys.getD k 0)):=(hrow.cellAt k (by omega)).trans (xF0 hk1);have HU:Hid (fstB ys k=false→dJ0 ys (k+1)=dJ0 ys k):=kG1;have HU1:Hid (fstB ys k=true→dJ0 ys (k+1)=dJ0 ys k++[ys.getD k 0]):=fC1;have HR:Hid (∀i,i<ys.length→wr.cell? ⟨g,i,none⟩=some (.int .i64 (ys.getD i 0))):=fun i hi=>(hrow.cellAt i (by omega)).trans (xF0 hi)
      clear hown hb hrow;obtain ⟨p,hp⟩:∃p,ys.getD k 0=p:=⟨_,rfl⟩;rw [hp] at c0 HU1;have HPK:Hid (ys.getD k 0=p):=hp;clear hp;go_upto_region 16 with fail;go_cut [60] from 50 to 60 (fun v wc=>v=.bool (!fstB ys k)∧wc=wr)
      case first=>
       cases k with
       | zero=>
        go_wp2_with fail;go_meet;exact ⟨rfl,rfl⟩
       | succ n=>
        have c1:=HR.out n (by omega);have hnn:(0:Int)≤(n:Int):=by omega
        have HF:Hid (fstB ys (n+1)=!(ys.getD n 0 == ys.getD (n+1) 0)):=fD1 ys n;clear HU HU1 HWo;rw [HPK.out] at HF;clear HPK HR;generalize ys.getD n 0=p0 at c1 HF
        by_cases hpp:p0=p
        ·subst hpp;go_wp2_with fail;go_meet;exact ⟨by rw [HF.out];simp,rfl⟩
        ·have hpb:(p0 == p)=false:=beq_eq_false_iff_ne.2 hpp;go_wp2_with fail;go_meet;exact ⟨by rw [HF.out,hpb];rfl,rfl⟩
      case rest=>
       obtain ⟨rfl,rfl⟩:=hcut;cases hf:fstB ys k with
       | false=>
        have HU2:Hid (dJ0 ys (k+1)=dJ0 ys k):=HU.out hf;clear HU HU1 hf HR c0;go_wp2_with fail;go_roundw
        case rel=>exact ⟨k+1,hk1,by go_num,by rw [HU2.out];exact HWo.out,HBo.out⟩
        case measure=>simp [intOf];omega
       | true=>
        have HU2:Hid (dJ0 ys (k+1)=dJ0 ys k++[p]):=HU1.out hf;rw [Bool.not_true];clear HU HU1 hf HR c0;obtain ⟨wo,hwo⟩:∃wo:World,wo=wc:=⟨_,rfl⟩;subst hwo;go_wp2_with fail;have hX0:(wo.alloc (.cells #[.int .i64 p,.int .i64 0,.int .i64 0] 238)).heap[wo.heap.size]? = some (.cells #[.int .i64 p,.int .i64 (demO p (l.take 0)),.int .i64 (supO p (l.take 0))] 238 (0,0)):=heap_alloc_new wo _;have HX0:Hid ((wo.alloc (.cells #[.int .i64 p,.int .i64 0,.int .i64 0] 238)).heap[wo.heap.size]? = some (.cells #[.int .i64 p,.int .i64 (demO p (l.take 0)),.int .i64 (supO p (l.take 0))] 238 (0,0))):=hX0;have HBX:Hid (Below wo.heap.size wo (wo.alloc (.cells #[.int .i64 p,.int .i64 0,.int .i64 0] 238))):=bD0 wo _;clear hX0;generalize wo.alloc (.cells #[.int .i64 p,.int .i64 0,.int .i64 0] 238)=wx at HX0 HBX ⊢;have HBW:Hid (Below w.heap.size w wo):=aS0 HB2.out HBo.out;obtain ⟨xb,hxb⟩:∃xb,wo.heap.size=xb:=⟨_,rfl⟩;rw [hxb] at HX0;rw [hxb];have HXB:Hid (wo.heap.size=xb):=hxb;clear hxb;go_loopw [65] (fun i wi=>∃j:Nat,j≤l.length∧i=.int .i64 j∧Below wo.heap.size wo wi∧wi.heap[xb]? = some (.cells #[.int .i64 p,.int .i64 (demO p (l.take j)),.int .i64 (supO p (l.take j))] 238 (0,0))) (fun i _=>l.length - (intOf i).toNat)
        case atStart=>exact ⟨0,Nat.zero_le _,rfl,HBX.out,HX0.out⟩
        case round=>
         obtain ⟨j,hj,rfl,hbi,hxi⟩:=hrel;have HBi:Hid (Below wo.heap.size wo wr):=hbi;have HXi:Hid (wr.heap[xb]? = some (.cells #[.int .i64 p,.int .i64 (demO p (l.take j)),.int .i64 (supO p (l.take j))] 238 (0,0))):=hxi;clear HX0 HBX
         by_cases hj1:j<l.length
         ·have hjlt:(j:Int)<(l.length:Int):=by omega
          obtain ⟨b,off,rfl,d0,d1,d2,d3,d4⟩:=HA.out.below (aS0 HBW.out hbi) j hj1;clear hbi hxi;have HDN:Hid (eF0 p (oAt l j)=false→demO p (l.take (j+1))=demO p (l.take j)):=rN1 hj1;have HDY:Hid (eF0 p (oAt l j)=true→demO p (l.take (j+1))=demO p (l.take j)+(oAt l j).qty):=oX1 hj1;have HSN:Hid (cN0 p (oAt l j)=false→supO p (l.take (j+1))=supO p (l.take j)):=rO1 hj1;have HSY:Hid (cN0 p (oAt l j)=true→supO p (l.take (j+1))=supO p (l.take j)+(oAt l j).qty):=oY1 hj1;have hdi:=wU0 p (l.take j);have hsi:=wV0 p (l.take j);have htl:(l.take j).length≤1000:=by rw [List.length_take];omega
          generalize oAt l j=o at d0 d1 d2 d3 d4 HDN HDY HSN HSY;generalize demO p (l.take j)=dd at HXi HDN HDY hdi;generalize supO p (l.take j)=ss at HXi HSN HSY hsi;generalize (l.take j).length=tl at hdi hsi htl;go_wp2_with fail;have hA:=heap_alloc_new wr (.cells #[.int .i64 o.id,.int .i64 o.side,.int .i64 o.kind,.int .i64 o.price,.int .i64 o.qty] 41);have hbA:=bD0 wr (.cells #[.int .i64 o.id,.int .i64 o.side,.int .i64 o.kind,.int .i64 o.price,.int .i64 o.qty] 41);have hyx:xb<wr.heap.size:=lt_of_block HXi.out;generalize wr.alloc (.cells #[.int .i64 o.id,.int .i64 o.side,.int .i64 o.kind,.int .i64 o.price,.int .i64 o.qty] 41)=W at hA hbA ⊢;refine (cuOk o W).mono ?_;rintro e w3 ⟨rfl,hb3⟩;have hA3:=eA0 hA hb3;have hb03:=aS0 hbA hb3;have hX3:=eA0 HXi.out hb03;have HB3:Hid (Below wo.heap.size wo w3):=HBi.out.trans (hb03.mono HBi.out.size);clear hA hbA hb3 hb03 HXi HBi d0 d1 d2 d3 d4;generalize wr.heap.size=y at hA3 hyx ⊢;have e1:=aP0 (j:=1) hA3 rfl;have e2:=aP0 (j:=2) hA3 rfl;have e3:=aP0 (j:=3) hA3 rfl;have e4:=aP0 (j:=4) hA3 rfl;have x1:=aP0 (j:=1) hX3 rfl;have x2:=aP0 (j:=2) hX3 rfl;have g1:=bT0 (j:=1) hX3;have g2:=bT0 (j:=2) hX3;have HX3:Hid (w3.heap[xb]? = some (.cells #[.int .i64 p,.int .i64 dd,.int .i64 ss] 238 (0,0))):=hX3;have n1:¬y=xb:=by omega
          have n2:¬xb=y:=by omega
          clear hX3 hA3;cases hok:okO o with
          | false=>
           have HD:Hid (demO p (l.take (j+1))=dd):=HDN.out (kH1 hok);have HS:Hid (supO p (l.take (j+1))=ss):=HSN.out (fE1 hok);clear hok HDN HDY HSN HSY;go_wp2_with fail;go_roundw
           case rel=>exact ⟨j+1,hj1,by go_num,HB3.out,by rw [HD.out,HS.out];exact HX3.out⟩
           case measure=>simp [intOf];omega
          | true=>
           obtain ⟨⟨hs1,hs2⟩,hq1,hq2⟩:=iX0 hok
           by_cases hs:o.side=1
           ·have HS:Hid (supO p (l.take (j+1))=ss):=HSN.out (bX1 hs);rw [hs] at e1
            by_cases hkd:o.kind=2
            ·have HD:Hid (demO p (l.take (j+1))=dd+o.qty):=HDY.out (oZ1 hok hs hkd);rw [hkd] at e2;clear hok HDN HDY HSN HSY hs hkd;go_wp2_with fail;go_roundw
             case rel=>exact ⟨j+1,hj1,by go_num,HB3.out.setCell (Nat.le_of_eq HXB.out) _,by rw [HD.out,HS.out];exact dF0 (j:=1) _ HX3.out⟩
             case measure=>simp [intOf];omega
            ·have hkb:(o.kind == 2)=false:=beq_eq_false_iff_ne.2 hkd
             by_cases hp:p≤o.price
             ·have HD:Hid (demO p (l.take (j+1))=dd+o.qty):=HDY.out (kJ1 hok hs hp);clear hok HDN HDY HSN HSY hs hkd;go_wp2_with fail;go_roundw
              case rel=>exact ⟨j+1,hj1,by go_num,HB3.out.setCell (Nat.le_of_eq HXB.out) _,by rw [HD.out,HS.out];exact dF0 (j:=1) _ HX3.out⟩
              case measure=>simp [intOf];omega
             ·have HD:Hid (demO p (l.take (j+1))=dd):=HDN.out (kK1 hkd hp);clear hok HDN HDY HSN HSY hs hkd;go_wp2_with fail;go_roundw
              case rel=>exact ⟨j+1,hj1,by go_num,HB3.out,by rw [HD.out,HS.out];exact HX3.out⟩
              case measure=>simp [intOf];omega
           ·have hs':o.side=2:=by omega
            have HD:Hid (demO p (l.take (j+1))=dd):=HDN.out (fF1 hs');rw [hs'] at e1
            by_cases hkd:o.kind=2
            ·have HS:Hid (supO p (l.take (j+1))=ss+o.qty):=HSY.out (kI1 hok hs' hkd);rw [hkd] at e2;clear hok HDN HDY HSN HSY hs hkd hs';go_wp2_with fail;go_roundw
             case rel=>exact ⟨j+1,hj1,by go_num,HB3.out.setCell (Nat.le_of_eq HXB.out) _,by rw [HD.out,HS.out];exact dF0 (j:=2) _ HX3.out⟩
             case measure=>simp [intOf];omega
            ·have hkb:(o.kind == 2)=false:=beq_eq_false_iff_ne.2 hkd
             by_cases hp:o.price≤p
             ·have HS:Hid (supO p (l.take (j+1))=ss+o.qty):=HSY.out (fG1 hok hs' hp);clear hok HDN HDY HSN HSY hs hkd hs';go_wp2_with fail;go_roundw
              case rel=>exact ⟨j+1,hj1,by go_num,HB3.out.setCell (Nat.le_of_eq HXB.out) _,by rw [HD.out,HS.out];exact dF0 (j:=2) _ HX3.out⟩
              case measure=>simp [intOf];omega
             ·have HS:Hid (supO p (l.take (j+1))=ss):=HSN.out (fH1 hkd hp);clear hok HDN HDY HSN HSY hs hkd hs';go_wp2_with fail;go_roundw
              case rel=>exact ⟨j+1,hj1,by go_num,HB3.out,by rw [HD.out,HS.out];exact HX3.out⟩
              case measure=>simp [intOf];omega
         ·obtain rfl:j=l.length:=by omega
          rw [List.take_length] at hxi;clear HXi hbi;obtain ⟨dd,hdd⟩:∃dd,demO p l=dd:=⟨_,rfl⟩;obtain ⟨ss,hss⟩:∃ss,supO p l=ss:=⟨_,rfl⟩;rw [hdd,hss] at hxi;have HPT:Hid (ptOf l p=⟨p,dd,ss⟩):=by unfold ptOf;rw [hdd,hss];rfl
          clear hdd hss;have x0:=aP0 (j:=0) hxi rfl;have x1:=aP0 (j:=1) hxi rfl;have x2:=aP0 (j:=2) hxi rfl;clear hxi;have HWi:Hid (wr.ownsRow w2.heap.size 238 3 (.slice oao (dJ0 ys k).length ocap) (dJ0 ys k).length (ptV ((dJ0 ys k).map (ptOf l)))):=cB0 HWo.out HBi.out lR7;have HB9:Hid (Below w2.heap.size w2 wr):=aS0 HBo.out HBi.out;clear HWo HBi HBo HBW;have HM:Hid (ptV ((dJ0 ys (k+1)).map (ptOf l))=ptV ((dJ0 ys k).map (ptOf l))++[.int .i64 p,.int .i64 dd,.int .i64 ss]):=by rw [HU2.out,List.map_append,List.map_singleton,HPT.out,nH0];rfl
          have HM2:Hid ((dJ0 ys (k+1)).length=(dJ0 ys k).length+1):=by rw [HU2.out,List.length_append,List.length_singleton];rfl
          clear HU2;go_wp2_with (at_builtin;refine wpList_append_own_at _ rfl _ _ 179 rfl w2.heap.size 238 iP (.agg #[.int .i64 0,.int .i64 0,.int .i64 0]) 3 24 Tryz.underlying179 hiP hP0 hP1 hP2 rfl (by decide) _ (dJ0 ys k).length (ptV ((dJ0 ys k).map (ptOf l))) rfl (HWi.out.alloc _) ⟨wr.heap.size,0,none⟩ 1 1 [.int .i64 p,.int .i64 dd,.int .i64 ss] rfl rfl (World.news_of_block (cs:=#[.int .i64 p,.int .i64 dd,.int .i64 ss]) (t:=238) (fr:=(0,0)) (heap_alloc_new wr _)) (by simp [Value.oneCell']) (by unfold maxLen;omega) (by omega) (by have:=HB9.out.size;simp;omega) ?_;intro v' w6 hown6 hgrow6 _ _);go_roundw
          case rel=>
           refine ⟨k+1,hk1,by go_num,?_,(HB9.out.alloc HB9.out.size _).grown hgrow6 (by have:=HB9.out.size;simp;omega) (fun q hq=>(HWi.out.lt q hq).1)⟩;rw [HM.out,HM2.out];exact hown6
          case measure=>simp [intOf];omega
     ·obtain rfl:k=ys.length:=by omega
      clear hown hb;go_wp2_with fail;go_ret;refine ⟨_,rfl,?_,aS0 HB2.out HBo.out⟩;rw [HC.out,List.length_map];exact bP0 HWo.out HB2.out.size
theorem kL1 (n:Int) (w:World) (h:-9000000000000000000≤n):
  Calls Tryz.prog 156 #[.int .i64 n] w fun e w'=>e=.returned (.int .i64 (absI n))∧w'=w:=by
 by_cases hn:n<0
 ·have HA:Hid (absI n=-n):=if_pos hn;go_enter Tryz.func156,Tryz.ntmps156;go_wp2;go_ret;exact ⟨by rw [HA.out];rfl,rfl⟩
 ·have HA:Hid (absI n=n):=if_neg hn;go_enter Tryz.func156,Tryz.ntmps156;go_wp2;go_ret;exact ⟨by rw [HA.out];rfl,rfl⟩
theorem nK0 (x:Pt) (w:World):
  Calls Tryz.prog 155 #[.agg #[.int .i64 x.price,.int .i64 x.dem,.int .i64 x.sup]] w fun e w'=>e=.returned (.int .i64 (trB x))∧Below w.heap.size w w':=by
 have HT:Hid (trB x=min x.dem x.sup):=rfl;go_enter Tryz.func155,Tryz.ntmps155;go_wp2;go_ret;exact ⟨by rw [HT.out];first | rfl | (congr 2;omega),bD0 w _⟩
def jV0 (w:World) (b:Nat) (x:Pt):Prop:=w.heap[b]? = some (.cells #[.int .i64 x.price,.int .i64 x.dem,.int .i64 x.sup] 238 (0,0))
theorem jV0.below {w w':World} {b:Nat} {x:Pt} (h:jV0 w b x) (hb:Below w.heap.size w w'):jV0 w' b x:=eA0 h hb
theorem fJ1 {m:Int} {s:Int×Bool} {x:Pt} (h:¬(trB x=m∧(s.2=false∨lfB x<s.1))):eG0 m s x=s:=if_neg h
theorem kM1 {m:Int} {s:Int×Bool} {x:Pt} (h:trB x=m∧(s.2=false∨lfB x<s.1)):eG0 m s x=(lfB x,true):=if_pos h
theorem sK0 {w:World} {b:Nat} {x:Pt} (h:jV0 w b x) (y:Pt):jV0 (((w.setCell ⟨b,0,none⟩ (.int .i64 y.price)).setCell ⟨b,1,none⟩ (.int .i64 y.dem)).setCell ⟨b,2,none⟩ (.int .i64 y.sup)) b y:=
 dF0 (j:=2) _ (dF0 (j:=1) _ (dF0 (j:=0) (.int .i64 y.price) h))
theorem nL0 {b s:Bool} {around:Int} {p x:Pt} (h:fI0 b s around p x=true):sH0 b s around x p=p:=if_pos h
theorem sL0 {b s:Bool} {around:Int} {p x:Pt} (h:fI0 b s around p x=false):sH0 b s around x p=x:=if_neg (by rw [h];decide)
set_option maxRecDepth 4000 in
set_option maxHeartbeats 4000000 in
theorem kN1 (a:Option Addr) (cap:Nat) (l:List Pt) (around:Int) (w:World) (h:gS0 w a l) (hl:l.length≤1000) (hs:∀x∈l,x.Small) (ha1:-1099511627776≤around) (ha2:around≤1099511627776):
  Calls Tryz.prog 104 #[.slice a l.length cap,.int .i64 around] w fun e w'=>e=.returned (.agg #[.int .i64 (aN0 l around).price,.int .i64 (aN0 l around).qty,.int .i64 (aN0 l around).sur])∧Below w.heap.size w w':=by
 obtain ⟨iP,hiP,hP0,hP1,hP2⟩:=info_parts Tryz.infoPt;have HA:Hid (gS0 w a l):=h;have HS:Hid (∀x∈l,x.Small):=hs;clear h hs;go_enter Tryz.func104,Tryz.ntmps104;go_wp2_with fail;have hq0:gI0 (w.alloc (.cells #[.int .i64 0,.int .i64 0,.int .i64 0] 69)) w.heap.size:=heap_alloc_new w _;have hb0:=bD0 w (.cells #[.int .i64 0,.int .i64 0,.int .i64 0] 69);have HQ0:Hid (gI0 (w.alloc (.cells #[.int .i64 0,.int .i64 0,.int .i64 0] 69)) w.heap.size):=hq0;have HB0:Hid (Below w.heap.size w (w.alloc (.cells #[.int .i64 0,.int .i64 0,.int .i64 0] 69))):=hb0;clear hq0 hb0;generalize w.alloc (.cells #[.int .i64 0,.int .i64 0,.int .i64 0] 69)=w0 at HQ0 HB0 ⊢;go_loopw [6,27] (fun v i wr=>∃k:Nat,k≤l.length∧i=.int .i64 k∧v=.int .i64 (cG0 (l.take k))∧Below w.heap.size w wr∧gI0 wr w.heap.size) (fun _ i _=>l.length - (intOf i).toNat)
 case atStart=>exact ⟨0,Nat.zero_le _,rfl,rfl,HB0.out,HQ0.out⟩
 case round=>
  obtain ⟨k,hk,rfl,rfl,hb,hq⟩:=hrel;clear HQ0 HB0;have HB:Hid (Below w.heap.size w wr):=hb;have HQ:Hid (gI0 wr w.heap.size):=hq;clear hq
  by_cases hk1:k<l.length
  ·have hlt:(k:Int)<(l.length:Int):=by omega
   obtain ⟨b,off,rfl,d0,d1,d2⟩:=HA.out.below hb k hk1;have HT:Hid (cG0 (l.take (k+1))=max (cG0 (l.take k)) (trB (ptAt l k))):=bL1 hk1;clear hb;generalize ptAt l k=x at d0 d1 d2 HT;generalize cG0 (l.take k)=m at HT ⊢;go_wp2_with fail;refine (nK0 x _).mono ?_;rintro e w3 ⟨rfl,hb3⟩;have hb4:=aS0 (bD0 wr (.cells #[.int .i64 x.price,.int .i64 x.dem,.int .i64 x.sup] 238)) hb3;have HB3:Hid (Below w.heap.size w w3):=aS0 HB.out hb4;have HQ3:Hid (gI0 w3 w.heap.size):=HQ.out.below hb4;clear hb3 hb4 HB HQ d0 d1 d2;go_wp2_with fail;go_roundw
   case rel=>exact ⟨k+1,hk1,by go_num,by rw [HT.out],HB3.out,HQ3.out⟩
   case measure=>simp [intOf];omega
  ·obtain rfl:k=l.length:=by omega
   rw [List.take_length];clear hb;have HCH:Hid (cG0 l<1→aN0 l around=⟨0,0,0⟩):=fun h=>if_pos h
   have HCH1:Hid (¬cG0 l<1→aN0 l around=quoP (hG0 l around)):=fun h=>if_neg h
   have HBS:Hid (1≤cG0 l→0<(dK0 (cG0 l) (cW0 (cG0 l) l).1 l).length):=oV0;have HCP:Hid (hG0 l around=bK1 (fY0 (dK0 (cG0 l) (cW0 (cG0 l) l).1 l)) (dB0 (dK0 (cG0 l) (cW0 (cG0 l) l).1 l)) around (dK0 (cG0 l) (cW0 (cG0 l) l).1 l)):=rfl;have hmi:=jP1 HS.out;generalize cG0 l=m at HCH HCH1 HBS HCP hmi ⊢
   by_cases hm:m<1
   ·have HC:Hid (aN0 l around=⟨0,0,0⟩):=HCH.out hm;have z0:=bT0 (j:=0) HQ.out;have z1:=bT0 (j:=1) HQ.out;have z2:=bT0 (j:=2) HQ.out;have q0:=aP0 (j:=0) HQ.out rfl;have q1:=aP0 (j:=1) HQ.out rfl;have q2:=aP0 (j:=2) HQ.out rfl;clear HCH HCH1 HBS HCP;go_wp2_with fail;refine bodyPost_ret (by simp [results,Tryz.results104,go_sem,q0,q1,q2];try rfl) rfl ?_;refine ⟨by rw [HC.out],?_⟩;exact ((HB.out.setCell lR7 _).setCell lR7 _).setCell lR7 _
   ·have HC:Hid (aN0 l around=quoP (hG0 l around)):=HCH1.out hm;have hbs:=HBS.out (by omega);rw [HCP.out] at HC;clear HCH HCH1 HBS HCP;go_wp2_with fail;obtain ⟨w1,hw1⟩:∃w1:World,w1=wr:=⟨_,rfl⟩;subst hw1;go_loopw [7,10,42] (fun v c i wr=>∃k:Nat,k≤l.length∧i=.int .i64 k∧v=.int .i64 (cW0 m (l.take k)).1∧c=.bool (cW0 m (l.take k)).2∧Below w.heap.size w wr∧gI0 wr w.heap.size) (fun _ _ i _=>l.length - (intOf i).toNat)
    case atStart=>exact ⟨0,Nat.zero_le _,rfl,rfl,rfl,HB.out,HQ.out⟩
    case round=>
     obtain ⟨k,hk,rfl,rfl,rfl,hb,hq⟩:=hrel;clear HB HQ;have HB:Hid (Below w.heap.size w wr):=hb;have HQ:Hid (gI0 wr w.heap.size):=hq;clear hq
     by_cases hk1:k<l.length
     ·have hlt:(k:Int)<(l.length:Int):=by omega
      obtain ⟨b,off,rfl,d0,d1,d2⟩:=HA.out.below hb k hk1;have HT:Hid (cW0 m (l.take (k+1))=eG0 m (cW0 m (l.take k)) (ptAt l k)):=wW0 m hk1;obtain ⟨hx1,hx2,hx3⟩:=HS.out _ (cJ0 hk1);clear hb hbs;generalize ptAt l k=x at d0 d1 d2 HT hx1 hx2 hx3;generalize cW0 m (l.take k)=s at HT ⊢;obtain ⟨n,c⟩:=s;dsimp only;go_wp2_with fail;have hX:=heap_alloc_new wr (.cells #[.int .i64 x.price,.int .i64 x.dem,.int .i64 x.sup] 238);have hbA:=bD0 wr (.cells #[.int .i64 x.price,.int .i64 x.dem,.int .i64 x.sup] 238);generalize wr.alloc (.cells #[.int .i64 x.price,.int .i64 x.dem,.int .i64 x.sup] 238)=W at hX hbA ⊢;generalize wr.heap.size=xb at hX ⊢;have HLF:Hid (lfB x=absI (x.dem - x.sup)):=rfl;refine (kL1 _ _ (by omega)).mono ?_;rintro e w3 ⟨rfl,hw3⟩;subst hw3;rw [←HLF.out];have x0:=aP0 (j:=0) hX rfl;have x1:=aP0 (j:=1) hX rfl;have x2:=aP0 (j:=2) hX rfl;go_wp2_with fail;refine (nK0 x _).mono ?_;rintro e w4 ⟨rfl,hb4⟩;have HB4:Hid (Below w.heap.size w w4):=aS0 HB.out (aS0 hbA hb4);have HQ4:Hid (gI0 w4 w.heap.size):=HQ.out.below (aS0 hbA hb4);clear hb4 HB HQ d0 d1 d2 x0 x1 x2 hX hbA HLF
      by_cases ht:trB x=m
      ·by_cases hc:c=false∨lfB x<n
       ·have HT2:Hid (cW0 m (l.take (k+1))=(lfB x,true)):=HT.out.trans (kM1 ⟨ht,hc⟩);rw [ht];clear HT;cases c with
        | false=>
         clear hc;go_wp2_with fail;go_roundw
         case rel=>exact ⟨k+1,hk1,by go_num,by rw [HT2.out],by rw [HT2.out],HB4.out,HQ4.out⟩
         case measure=>simp [intOf];omega
        | true=>
         have hc2:lfB x<n:=by
          rcases hc with hc | hc
          ·cases hc
          ·exact hc
         clear hc;go_wp2_with fail;go_roundw
         case rel=>exact ⟨k+1,hk1,by go_num,by rw [HT2.out],by rw [HT2.out],HB4.out,HQ4.out⟩
         case measure=>simp [intOf];omega
       ·have HT2:Hid (cW0 m (l.take (k+1))=(n,c)):=HT.out.trans (fJ1 (fun e=>hc e.2));rw [ht];clear HT;cases c with
        | false=>exact absurd (Or.inl rfl) hc
        | true=>
         have hc2:¬lfB x<n:=fun e=>hc (Or.inr e)
         clear hc;go_wp2_with fail;go_roundw
         case rel=>exact ⟨k+1,hk1,by go_num,by rw [HT2.out],by rw [HT2.out],HB4.out,HQ4.out⟩
         case measure=>simp [intOf];omega
      ·have HT2:Hid (cW0 m (l.take (k+1))=(n,c)):=HT.out.trans (fJ1 (fun e=>ht e.1));have htb:(trB x == m)=false:=beq_eq_false_iff_ne.2 ht;clear HT;go_wp2_with fail;go_roundw
       case rel=>exact ⟨k+1,hk1,by go_num,by rw [HT2.out],by rw [HT2.out],HB4.out,HQ4.out⟩
       case measure=>simp [intOf];omega
     ·obtain rfl:k=l.length:=by omega
      rw [List.take_length];clear hb;generalize (cW0 m l).1=n at HC hbs ⊢;generalize (cW0 m l).2=c;obtain ⟨w2,hw2⟩:∃w2:World,w2=wr:=⟨_,rfl⟩;subst hw2;go_wp2_with fail;go_loopw [14,15,16,70] (fun v x y i wr=>∃k:Nat,k≤l.length∧i=.int .i64 k∧x=.bool (fY0 (dK0 m n (l.take k)))∧y=.bool (dB0 (dK0 m n (l.take k)))∧wr.ownsRow w2.heap.size 238 3 v (dK0 m n (l.take k)).length (ptV (dK0 m n (l.take k)))∧Below w2.heap.size w2 wr) (fun _ _ _ i _=>l.length - (intOf i).toNat)
      case atStart=>exact ⟨0,Nat.zero_le _,rfl,rfl,rfl,World.ownsRow_nil _ _ _ _,Below.refl _ _⟩
      case round=>
       obtain ⟨k,hk,rfl,rfl,rfl,hown,hb⟩:=hrel;have HW:Hid (wr.ownsRow w2.heap.size 238 3 u14 (dK0 m n (l.take k)).length (ptV (dK0 m n (l.take k)))):=hown;have HB2:Hid (Below w2.heap.size w2 wr):=hb
       have hbl:(dK0 m n (l.take k)).length≤1000:=by
        have:=List.length_filter_le (kY0 m n) (l.take k);rw [List.length_take] at this;unfold dK0;omega
       obtain ⟨vao,vcap,rfl,_,_⟩:=aW0 hown;clear hown
       by_cases hk1:k<l.length
       ·have hlt:(k:Int)<(l.length:Int):=by omega
        obtain ⟨b,off,rfl,d0,d1,d2⟩:=HA.out.below (aS0 HB.out hb) k hk1;have HT:Hid (dK0 m n (l.take (k+1))=if kY0 m n (ptAt l k)=true then dK0 m n (l.take k)++[ptAt l k] else dK0 m n (l.take k)):=bM1 m n hk1;obtain ⟨hx1,hx2,hx3⟩:=HS.out _ (cJ0 hk1);clear hb hbs;generalize ptAt l k=x at d0 d1 d2 HT hx1 hx2 hx3;generalize dK0 m n (l.take k)=acc at HT HW hbl ⊢;go_wp2_with fail;have hX:jV0 (wr.alloc (.cells #[.int .i64 x.price,.int .i64 x.dem,.int .i64 x.sup] 238)) wr.heap.size x:=heap_alloc_new wr _;have hbA:=bD0 wr (.cells #[.int .i64 x.price,.int .i64 x.dem,.int .i64 x.sup] 238);generalize wr.alloc (.cells #[.int .i64 x.price,.int .i64 x.dem,.int .i64 x.sup] 238)=W at hX hbA ⊢;have HLT:Hid (∀q,(Value.slice vao acc.length vcap).ownBlock=some q→q<wr.heap.size):=fun q hq=>(HW.out.lt q hq).2
        generalize wr.heap.size=xb at hX HLT ⊢;refine (nK0 x _).mono ?_;rintro e w4 ⟨rfl,hb4⟩;have hX4:=hX.below hb4;have HW4:Hid (w4.ownsRow w2.heap.size 238 3 (.slice vao acc.length vcap) acc.length (ptV acc)):=cB0 HW.out (aS0 hbA hb4) lR7;have HB4:Hid (Below w2.heap.size w2 w4):=aS0 HB2.out (aS0 hbA hb4);have HX4:Hid (jV0 w4 xb x):=hX4;clear hX hbA hb4 HW HB2 d0 d1 d2 hX4
        by_cases ht:trB x=m
        ·have y0:=aP0 (j:=0) HX4.out rfl;have y1:=aP0 (j:=1) HX4.out rfl;have y2:=aP0 (j:=2) HX4.out rfl;have HLF:Hid (lfB x=absI (x.dem - x.sup)):=rfl;rw [ht];go_wp2_with fail;refine (kL1 _ _ (by omega)).mono ?_;rintro e w5 ⟨rfl,hw5⟩;subst hw5;rw [←HLF.out]
         by_cases hn:lfB x=n
         ·have hbb:kY0 m n x=true:=by unfold kY0;simp [ht,hn]
          have HT2:Hid (dK0 m n (l.take (k+1))=acc++[x]):=by rw [HT.out,if_pos hbb];rfl
          have HBY:Hid (fY0 (acc++[x])=(fY0 acc&& decide (x.sup<x.dem))):=bN1 acc x;have HSE:Hid (dB0 (acc++[x])=(dB0 acc&& decide (x.dem<x.sup))):=wX0 acc x;rw [hn];clear HT hbb hn ht HLF;go_upto_region 25 with (at_builtin;refine wpList_append_own_at _ rfl _ _ 179 rfl w2.heap.size 238 iP (.agg #[.int .i64 0,.int .i64 0,.int .i64 0]) 3 24 Tryz.underlying179 hiP hP0 hP1 hP2 rfl (by decide) _ acc.length (ptV acc) rfl (HW4.out.alloc _) ⟨w5.heap.size,0,none⟩ 1 1 [.int .i64 x.price,.int .i64 x.dem,.int .i64 x.sup] rfl rfl (World.news_of_block (cs:=#[.int .i64 x.price,.int .i64 x.dem,.int .i64 x.sup]) (t:=238) (fr:=(0,0)) (heap_alloc_new w5 _)) (by simp [Value.oneCell']) (by unfold maxLen;omega) (by omega) (by have:=HB4.out.size;simp;omega) ?_;intro v' w6 hown6 hgrow6 _ _);have hX6:jV0 w6 xb x:=(hgrow6.block xb (by have:=lt_of_block HX4.out;simp;omega) (fun e=>by have:=HLT.out xb e.symm;omega)).trans ((bD0 w5 _).block xb (lt_of_block HX4.out) |>.trans HX4.out);have HB6:Hid (Below w2.heap.size w2 w6):=(HB4.out.alloc HB4.out.size _).grown hgrow6 (by have:=HB4.out.size;simp;omega) (fun q hq=>(HW4.out.lt q hq).1)
          have HW6:Hid (w6.ownsRow w2.heap.size 238 3 v' (dK0 m n (l.take (k+1))).length (ptV (dK0 m n (l.take (k+1))))):=by
           rw [HT2.out,nH0,List.length_append,List.length_singleton];exact hown6
          clear hown6 hgrow6 y0 y1 y2 HB4 HW4 HLT HX4;have z1:=aP0 (j:=1) hX6 rfl;have z2:=aP0 (j:=2) hX6 rfl;clear hX6;have HBY2:Hid (fY0 (dK0 m n (l.take (k+1)))=(fY0 acc&& decide (x.sup<x.dem))):=by rw [HT2.out];exact HBY.out
          have HSE2:Hid (dB0 (dK0 m n (l.take (k+1)))=(dB0 acc&& decide (x.dem<x.sup))):=by rw [HT2.out];exact HSE.out
          clear HBY HSE HT2;generalize fY0 acc=bb at HBY2 ⊢;generalize dB0 acc=sb at HSE2 ⊢;cases bb <;> cases sb
          all_goals
           go_wp2_with fail;go_roundw
           case rel=>exact ⟨k+1,hk1,by go_num,by rw [HBY2.out];simp,by rw [HSE2.out];simp,HW6.out,HB6.out⟩
           case measure=>simp [intOf];omega
         ·have hnb:(lfB x == n)=false:=beq_eq_false_iff_ne.2 hn;have hbb:kY0 m n x=false:=by unfold kY0;rw [hnb];simp
          have HT2:Hid (dK0 m n (l.take (k+1))=acc):=by rw [HT.out,if_neg (by rw [hbb];decide)];rfl
          clear HT hbb hn ht HLF y0 y1 y2;go_wp2_with fail;go_roundw
          case rel=>exact ⟨k+1,hk1,by go_num,by rw [HT2.out],by rw [HT2.out],by rw [HT2.out];exact HW4.out,HB4.out⟩
          case measure=>simp [intOf];omega
        ·have htb:(trB x == m)=false:=beq_eq_false_iff_ne.2 ht;have hbb:kY0 m n x=false:=by unfold kY0;rw [htb];rfl
         have HT2:Hid (dK0 m n (l.take (k+1))=acc):=by rw [HT.out,if_neg (by rw [hbb];decide)];rfl
         clear HT hbb ht;go_wp2_with fail;go_roundw
         case rel=>exact ⟨k+1,hk1,by go_num,by rw [HT2.out],by rw [HT2.out],by rw [HT2.out];exact HW4.out,HB4.out⟩
         case measure=>simp [intOf];omega
       ·obtain rfl:k=l.length:=by omega
        rw [List.take_length] at HW hbl;rw [List.take_length];clear hb;have HSB:Hid (∀y∈dK0 m n l,y.Small):=fun y hy=>HS.out y (List.mem_filter.1 hy).1
        generalize dK0 m n l=best at HW hbl HC hbs HSB ⊢;have HPA:Hid (bK1 (fY0 best) (dB0 best) around best=fJ0 (fY0 best) (dB0 best) around best best.length):=(oS0 _ _ _ _).symm;have HPM:Hid (∀k,k≤best.length→fJ0 (fY0 best) (dB0 best) around best k∈best):=oW0 _ _ around hbs;have HPS:Hid (∀k,k<best.length→fJ0 (fY0 best) (dB0 best) around best (k+1)=sH0 (fY0 best) (dB0 best) around (fJ0 (fY0 best) (dB0 best) around best k) (ptAt best k)):=fun k hk=>mC0 hk
        have HP0:Hid (fJ0 (fY0 best) (dB0 best) around best 0=ptAt best 0):=rfl;rw [HPA.out] at HC;generalize fY0 best=by_ at HC HPM HPS HP0 ⊢;generalize dB0 best=se_ at HC HPM HPS HP0 ⊢;clear HPA;obtain ⟨g,cap',hv,c0,c1,c2⟩:=zL0 HW.out hbs;simp only [Value.slice.injEq,true_and] at hv;obtain ⟨rfl,rfl⟩:=hv;rw [Nat.zero_mul] at c0;rw [Nat.zero_mul,Nat.zero_add] at c1 c2;have hbs':(0:Int)<(best.length:Int):=by omega
        generalize ptAt best 0=p0 at c0 c1 c2 HP0;go_wp2_with fail;have hx0:jV0 (wr.alloc (.cells #[.int .i64 p0.price,.int .i64 p0.dem,.int .i64 p0.sup] 238)) wr.heap.size p0:=heap_alloc_new wr _;have HX0:Hid (jV0 (wr.alloc (.cells #[.int .i64 p0.price,.int .i64 p0.dem,.int .i64 p0.sup] 238)) wr.heap.size (fJ0 by_ se_ around best 0)):=by rw [HP0.out];exact hx0
        have HBX:Hid (Below wr.heap.size wr (wr.alloc (.cells #[.int .i64 p0.price,.int .i64 p0.dem,.int .i64 p0.sup] 238))):=bD0 wr _;clear hx0 c0 c1 c2 HP0;generalize wr.alloc (.cells #[.int .i64 p0.price,.int .i64 p0.dem,.int .i64 p0.sup] 238)=wx at HX0 HBX ⊢;obtain ⟨w3,hw3⟩:∃w3:World,w3=wr:=⟨_,rfl⟩;subst hw3;have HBW:Hid (Below w.heap.size w w3):=aS0 HB.out HB2.out;have HQ3:Hid (gI0 w3 w.heap.size):=HQ.out.below HB2.out;obtain ⟨xb,hxb⟩:∃xb,w3.heap.size=xb:=⟨_,rfl⟩;rw [hxb] at HX0;rw [hxb];have HXB:Hid (w3.heap.size=xb):=hxb;clear hxb HB HB2 HQ;go_loopw [115] (fun i wi=>∃j:Nat,j≤best.length∧i=.int .i64 j∧jV0 wi xb (fJ0 by_ se_ around best j)∧Below w3.heap.size w3 wi) (fun i _=>best.length - (intOf i).toNat)
        case atStart=>exact ⟨0,Nat.zero_le _,rfl,HX0.out,HBX.out⟩
        case round=>
         obtain ⟨j,hj,rfl,hxi,hbi⟩:=hrel;have HXi:Hid (jV0 wr xb (fJ0 by_ se_ around best j)):=hxi;have HBi:Hid (Below w3.heap.size w3 wr):=hbi;have hxs:=HSB.out _ (HPM.out j hj);clear HX0 HBX
         by_cases hj1:j<best.length
         ·have hjlt:(j:Int)<(best.length:Int):=by omega
          obtain ⟨g',cap'',hv,d0,d1,d2⟩:=zL0 (cB0 HW.out hbi lR7) hj1;simp only [Value.slice.injEq,Option.some.injEq,Addr.mk.injEq,true_and,and_true] at hv;obtain ⟨hg,hc⟩:=hv;subst hg hc;have hps:=HSB.out _ (cJ0 hj1);have HTK0:Hid (fJ0 by_ se_ around best (j+1)=sH0 by_ se_ around (fJ0 by_ se_ around best j) (ptAt best j)):=HPS.out j hj1;clear hxi hbi;generalize fJ0 by_ se_ around best j=x at HXi hxs HTK0;generalize ptAt best j=p at d0 d1 d2 hps HTK0;obtain ⟨⟨xp1,xp2⟩,⟨xd1,xd2⟩,⟨xs1,xs2⟩⟩:=hxs;obtain ⟨⟨pp1,pp2⟩,⟨pd1,pd2⟩,⟨ps1,ps2⟩⟩:=hps;go_upto_region 32 with fail;have hP5:jV0 (wr.alloc (.cells #[.int .i64 p.price,.int .i64 p.dem,.int .i64 p.sup] 238)) wr.heap.size p:=heap_alloc_new wr _;have hbA:=bD0 wr (.cells #[.int .i64 p.price,.int .i64 p.dem,.int .i64 p.sup] 238);have hyx:xb<wr.heap.size:=lt_of_block HXi.out;generalize wr.alloc (.cells #[.int .i64 p.price,.int .i64 p.dem,.int .i64 p.sup] 238)=W at hP5 hbA ⊢;generalize wr.heap.size=yb at hP5 hyx ⊢;have HX5:Hid (jV0 W xb x):=HXi.out.below hbA;have HB5:Hid (Below w3.heap.size w3 W):=aS0 HBi.out hbA;have HP5:Hid (jV0 W yb p):=hP5;clear hP5 hbA HXi HBi d0 d1 d2;have n1:¬yb=xb:=by omega
          have n2:¬xb=yb:=by omega
          cases by_ with
          | true=>
           have y0:=aP0 (j:=0) HP5.out rfl;have y1:=aP0 (j:=1) HP5.out rfl;have y2:=aP0 (j:=2) HP5.out rfl;have x0:=aP0 (j:=0) HX5.out rfl;have x1:=aP0 (j:=1) HX5.out rfl;have x2:=aP0 (j:=2) HX5.out rfl;have f0:=bT0 (j:=0) HX5.out;have f1:=bT0 (j:=1) HX5.out;have f2:=bT0 (j:=2) HX5.out
           by_cases hp:x.price<p.price
           ·have HTK:Hid (fJ0 true se_ around best (j+1)=p):=HTK0.out.trans (nL0 (by unfold fI0;simp [hp]));clear HTK0;go_wp2_with fail;go_roundw
            case rel=>exact ⟨j+1,hj1,by go_num,by rw [HTK.out];exact sK0 HX5.out p,((HB5.out.setCell (Nat.le_of_eq HXB.out) _).setCell (Nat.le_of_eq HXB.out) _).setCell (Nat.le_of_eq HXB.out) _⟩
            case measure=>simp [intOf];omega
           ·have HTK:Hid (fJ0 true se_ around best (j+1)=x):=HTK0.out.trans (sL0 (by unfold fI0;simp [hp]));clear HTK0;go_wp2_with fail;go_roundw
            case rel=>exact ⟨j+1,hj1,by go_num,by rw [HTK.out];exact HX5.out,HB5.out⟩
            case measure=>simp [intOf];omega
          | false=>
           cases se_ with
           | true=>
            have y0:=aP0 (j:=0) HP5.out rfl;have y1:=aP0 (j:=1) HP5.out rfl;have y2:=aP0 (j:=2) HP5.out rfl;have x0:=aP0 (j:=0) HX5.out rfl;have x1:=aP0 (j:=1) HX5.out rfl;have x2:=aP0 (j:=2) HX5.out rfl;have f0:=bT0 (j:=0) HX5.out;have f1:=bT0 (j:=1) HX5.out;have f2:=bT0 (j:=2) HX5.out
            by_cases hp:p.price<x.price
            ·have HTK:Hid (fJ0 false true around best (j+1)=p):=HTK0.out.trans (nL0 (by unfold fI0;simp [hp]));clear HTK0;go_wp2_with fail;go_roundw
             case rel=>exact ⟨j+1,hj1,by go_num,by rw [HTK.out];exact sK0 HX5.out p,((HB5.out.setCell (Nat.le_of_eq HXB.out) _).setCell (Nat.le_of_eq HXB.out) _).setCell (Nat.le_of_eq HXB.out) _⟩
             case measure=>simp [intOf];omega
            ·have HTK:Hid (fJ0 false true around best (j+1)=x):=HTK0.out.trans (sL0 (by unfold fI0;simp [hp]));clear HTK0;go_wp2_with fail;go_roundw
             case rel=>exact ⟨j+1,hj1,by go_num,by rw [HTK.out];exact HX5.out,HB5.out⟩
             case measure=>simp [intOf];omega
           | false=>
            have k0:=cell_regrown (aP0 (j:=0) HP5.out rfl);have k1:=cell_regrown (aP0 (j:=0) HX5.out rfl);have HBT:Hid (fI0 false false around p x=(decide (absI (p.price - around)<absI (x.price - around)) || ((absI (p.price - around) == absI (x.price - around))&& decide (p.price<x.price)))):=rfl;have cA:∀dq os,Calls Tryz.prog 156 #[.int .i64 (p.price - around)] (Go.Sort.grow (redrawn W dq) os) fun e w''=>e=.returned (.int .i64 (absI (p.price - around)))∧∃q:Regrown,w''=Go.Sort.grow (redrawn W q.d) q.os:=fun dq os=>Calls.regrown_of ((kL1 _ _ (by omega)).mono fun e w' ⟨he,hw⟩=>⟨he,by rw [hw];exact Below.refl _ _⟩)
            have cX:∀dq os,Calls Tryz.prog 156 #[.int .i64 (x.price - around)] (Go.Sort.grow (redrawn W dq) os) fun e w''=>e=.returned (.int .i64 (absI (x.price - around)))∧∃q:Regrown,w''=Go.Sort.grow (redrawn W q.d) q.os:=fun dq os=>Calls.regrown_of ((kL1 _ _ (by omega)).mono fun e w' ⟨he,hw⟩=>⟨he,by rw [hw];exact Below.refl _ _⟩)
            generalize absI (p.price - around)=aP at HBT cA;generalize absI (x.price - around)=aX at HBT cX;go_wp2_with fail;refine wp_region_quiet_below (by kernel_rfl) (by kernel_rfl) ?_
            repeat (go_big_quiet_step (first | exact cA _ _ | exact cX _ _))
            refine wpQuiet_nil ?_;intro _ hw';obtain ⟨⟨dq,osq⟩,hw''⟩:=hw';subst hw'';have hbw:=below_regrown W dq osq;generalize Go.Sort.grow (redrawn W dq) osq=V at hbw ⊢;have HX6:Hid (jV0 V xb x):=HX5.out.below hbw;have HB6:Hid (Below w3.heap.size w3 V):=aS0 HB5.out hbw;have hP6:=HP5.out.below hbw;clear k0 k1 cA cX hbw HX5 HB5 HP5;have y0:=aP0 (j:=0) hP6 rfl;have y1:=aP0 (j:=1) hP6 rfl;have y2:=aP0 (j:=2) hP6 rfl;have x0:=aP0 (j:=0) HX6.out rfl;have x1:=aP0 (j:=1) HX6.out rfl;have x2:=aP0 (j:=2) HX6.out rfl;have f0:=bT0 (j:=0) HX6.out;have f1:=bT0 (j:=1) HX6.out;have f2:=bT0 (j:=2) HX6.out;clear hP6
            by_cases hp:aP<aX
            ·have HTK:Hid (fJ0 false false around best (j+1)=p):=HTK0.out.trans (nL0 (by rw [HBT.out];simp [hp]));clear HTK0 HBT;go_wp2_with fail;go_roundw
             case rel=>exact ⟨j+1,hj1,by go_num,by rw [HTK.out];exact sK0 HX6.out p,((HB6.out.setCell (Nat.le_of_eq HXB.out) _).setCell (Nat.le_of_eq HXB.out) _).setCell (Nat.le_of_eq HXB.out) _⟩
             case measure=>simp [intOf];omega
            ·by_cases he:aP=aX
             ·subst he
              by_cases hpx:p.price<x.price
              ·have HTK:Hid (fJ0 false false around best (j+1)=p):=HTK0.out.trans (nL0 (by rw [HBT.out];simp [hpx]));clear HTK0 HBT;go_wp2_with fail;go_roundw
               case rel=>exact ⟨j+1,hj1,by go_num,by rw [HTK.out];exact sK0 HX6.out p,((HB6.out.setCell (Nat.le_of_eq HXB.out) _).setCell (Nat.le_of_eq HXB.out) _).setCell (Nat.le_of_eq HXB.out) _⟩
               case measure=>simp [intOf];omega
              ·have HTK:Hid (fJ0 false false around best (j+1)=x):=HTK0.out.trans (sL0 (by rw [HBT.out];simp [hpx]));clear HTK0 HBT;go_wp2_with fail;go_roundw
               case rel=>exact ⟨j+1,hj1,by go_num,by rw [HTK.out];exact HX6.out,HB6.out⟩
               case measure=>simp [intOf];omega
             ·have heb:(aP == aX)=false:=beq_eq_false_iff_ne.2 he;have HTK:Hid (fJ0 false false around best (j+1)=x):=HTK0.out.trans (sL0 (by rw [HBT.out,heb];simp [hp]));clear HTK0 HBT he;go_wp2_with fail;go_roundw
              case rel=>exact ⟨j+1,hj1,by go_num,by rw [HTK.out];exact HX6.out,HB6.out⟩
              case measure=>simp [intOf];omega
         ·obtain rfl:j=best.length:=by omega
          obtain ⟨⟨xp1,xp2⟩,⟨xd1,xd2⟩,⟨xs1,xs2⟩⟩:=hxs;generalize fJ0 by_ se_ around best best.length=x at HXi HC xp1 xp2 xd1 xd2 xs1 xs2 hxi;have hq5:gI0 wr w.heap.size:=HQ3.out.below hbi;have HQd:Hid (gI0 wr.drew w.heap.size):=hq5;have HBd:Hid (Below w.heap.size w wr.drew):=(aS0 HBW.out hbi).drew;have hqx:w.heap.size<xb:=by have:=lt_of_block HQ3.out;have:=HXB.out;omega
          have n1:¬w.heap.size=xb:=by omega
          have n2:¬xb=w.heap.size:=by omega
          have x0:=aP0 (j:=0) hxi rfl;have x1:=aP0 (j:=1) hxi rfl;have x2:=aP0 (j:=2) hxi rfl;have HC1:Hid ((aN0 l around).price=x.price∧(aN0 l around).qty=trB x∧(aN0 l around).sur=x.dem - x.sup):=by rw [HC.out];exact ⟨rfl,rfl,rfl⟩
          clear hq5 hxi hbi hqx HC;go_wp2_with fail
          go_region_held3 (fun w'=>w'.cell? ⟨xb,0,none⟩=some (.int .i64 x.price)∧w'.cell? ⟨xb,1,none⟩=some (.int .i64 x.dem)∧w'.cell? ⟨xb,2,none⟩=some (.int .i64 x.sup))
           (first | go_keep | (go_split_ands;refine ⟨?_,?_,?_⟩ <;> (refine cE0 hbk ?_;assumption)))
           (first | (go_at_call 155;refine (nK0 x _).mono ?_;rintro e w5 ⟨rfl,hbk⟩;have hq5:=HQd.out.below hbk;have q0:=aP0 (j:=0) hq5 rfl;have q1:=aP0 (j:=1) hq5 rfl;have q2:=aP0 (j:=2) hq5 rfl;have f0:=bT0 (j:=0) hq5;have f1:=bT0 (j:=1) hq5;have f2:=bT0 (j:=2) hq5;have HB9:Hid (Below w.heap.size w w5):=aS0 HBd.out hbk;have HQ5:Hid (gI0 w5 w.heap.size):=hq5;clear hq5))
          have hwrap:IntKind.i64.wrap (x.dem - x.sup)=x.dem - x.sup:=IntWalk.i64_in _ (by omega);rw [hwrap];have hF:=dF0 (j:=2) (.int .i64 (x.dem - x.sup)) (dF0 (j:=1) (.int .i64 (trB x)) (dF0 (j:=0) (.int .i64 x.price) HQ5.out));have HB10:Hid (Below w.heap.size w (((w5.setCell ⟨w.heap.size,0,none⟩ (.int .i64 x.price)).setCell ⟨w.heap.size,1,none⟩ (.int .i64 (trB x))).setCell ⟨w.heap.size,2,none⟩ (.int .i64 (x.dem - x.sup)))):=((HB9.out.setCell lR7 _).setCell lR7 _).setCell lR7 _;rename_i hHeld9;clear hHeld9 q0 q1 q2 f0 f1 f2 hbk x0 x1 x2 hwrap;generalize ((w5.setCell ⟨w.heap.size,0,none⟩ (.int .i64 x.price)).setCell ⟨w.heap.size,1,none⟩ (.int .i64 (trB x))).setCell ⟨w.heap.size,2,none⟩ (.int .i64 (x.dem - x.sup))=V at hF HB10 ⊢;have z0:=aP0 (j:=0) hF rfl;have z1:=aP0 (j:=1) hF rfl;have z2:=aP0 (j:=2) hF rfl;clear hF;go_wp2_with fail;refine bodyPost_ret (by simp [results,Tryz.results104,go_sem,z0,z1,z2];try rfl) rfl ?_;exact ⟨by rw [HC1.out.1,HC1.out.2.1,HC1.out.2.2],HB10.out⟩
theorem nA1 {l:List Ord} {f g:Ord→Bool} (h:∀o∈l,f o=true→g o=true) (hq:∀o∈l,g o=true→0≤o.qty):(l.map fun o=>if f o=true then o.qty else 0).sum≤(l.map fun o=>if g o=true then o.qty else 0).sum:=by
 induction l with
 | nil=>simp
 | cons o l ih=>
  have ih':=ih (fun o ho=>h o (List.mem_cons_of_mem _ ho)) (fun o ho=>hq o (List.mem_cons_of_mem _ ho));have h1:=h o (List.mem_cons_self ..);have h2:=hq o (List.mem_cons_self ..);rw [List.map_cons,List.map_cons,List.sum_cons,List.sum_cons]
  by_cases hf:f o=true
  ·rw [if_pos hf,if_pos (h1 hf)];omega
  ·rw [if_neg hf]
   by_cases hg:g o=true
   ·rw [if_pos hg];have:=h2 hg;omega
   ·rw [if_neg hg];omega
theorem nB1 {l:List Ord} {p q:Int} (h:∀o∈l,eF0 p o=true→eF0 q o=true):demO p l≤demO q l:=
 nA1 h (fun o _ hb=>by have:=(iX0 (zM0 hb)).2;omega)
theorem nC1 {l:List Ord} {p q:Int} (h:∀o∈l,cN0 p o=true→cN0 q o=true):supO p l≤supO q l:=
 nA1 h (fun o _ hb=>by have:=(iX0 (uJ0 hb)).2;omega)
theorem uY0 (p:Int):∀l:List Int,(∀x∈l,p<x)∨∃q∈l,q≤p∧∀x∈l,x≤p→x≤q
 | []=>Or.inl (fun x hx=>by cases hx)
 | y::l=>by
  rcases uY0 p l with h | ⟨q,hq,h1,h2⟩
  ·by_cases hy:y≤p
   ·refine Or.inr ⟨y,List.mem_cons_self ..,hy,fun x hx hxp=>?_⟩;rw [List.mem_cons] at hx;rcases hx with rfl | hx
    ·exact Int.le_refl _
    ·have:=h x hx;omega
   ·refine Or.inl (fun x hx=>?_);rw [List.mem_cons] at hx;rcases hx with rfl | hx
    ·omega
    ·exact h x hx
  ·by_cases hy:y≤p∧q≤y
   ·refine Or.inr ⟨y,List.mem_cons_self ..,hy.1,fun x hx hxp=>?_⟩;rw [List.mem_cons] at hx;rcases hx with rfl | hx
    ·exact Int.le_refl _
    ·have:=h2 x hx hxp;omega
   ·refine Or.inr ⟨q,List.mem_cons_of_mem _ hq,h1,fun x hx hxp=>?_⟩;rw [List.mem_cons] at hx;rcases hx with rfl | hx
    ·omega
    ·exact h2 x hx hxp
theorem zU0:∀l:List Int,l≠[]→∃q∈l,∀x∈l,q≤x
 | [],h=>absurd rfl h
 | [y],_=>⟨y,List.mem_cons_self ..,fun x hx=>by rw [List.mem_singleton] at hx;omega⟩
 | y::z::l,_=>by
  obtain ⟨q,hq,h1⟩:=zU0 (z::l) (by simp)
  by_cases hy:y≤q
  ·refine ⟨y,List.mem_cons_self ..,fun x hx=>?_⟩;rw [List.mem_cons] at hx;rcases hx with rfl | hx
   ·exact Int.le_refl _
   ·have:=h1 x hx;omega
  ·refine ⟨q,List.mem_cons_of_mem _ hq,fun x hx=>?_⟩;rw [List.mem_cons] at hx;rcases hx with rfl | hx
   ·omega
   ·exact h1 x hx
theorem lE0 {p:Int} {o:Ord}:eF0 p o=true↔(okO o=true∧o.side=1∧(o.kind=2∨p≤o.price)):=by unfold eF0;simp
theorem jO0 {p:Int} {o:Ord}:cN0 p o=true↔(okO o=true∧o.side=2∧(o.kind=2∨o.price≤p)):=by unfold cN0;simp
theorem pF0 {l:List Ord} {more:Int} {o:Ord} (ho:o∈l) (h:okO o=true) (hk:¬o.kind=2):o.price∈bA0 l more:=
 cU0.2 (Or.inr ⟨o,ho,by unfold cZ0;simp [h,hk],rfl⟩)
theorem bY1 {l:List Ord} {more:Int} (p:Int) (hne:bA0 l more≠[]):∃q∈bA0 l more,demO p l≤demO q l∧supO p l≤supO q l:=by
 rcases uY0 p (bA0 l more) with h | ⟨q,hq,h1,h2⟩
 ·obtain ⟨q,hq,h1⟩:=zU0 _ hne;refine ⟨q,hq,nB1 fun o ho hb=>?_,nC1 fun o ho hb=>?_⟩
  ·obtain ⟨a1,a2,a3⟩:=lE0.1 hb;refine lE0.2 ⟨a1,a2,?_⟩
   by_cases hk:o.kind=2
   ·exact Or.inl hk
   ·exact Or.inr (h1 _ (pF0 ho a1 hk))
  ·obtain ⟨a1,a2,a3⟩:=jO0.1 hb;refine jO0.2 ⟨a1,a2,?_⟩
   by_cases hk:o.kind=2
   ·exact Or.inl hk
   ·have:=h _ (pF0 (more:=more) ho a1 hk);rcases a3 with a3 | a3
    ·exact absurd a3 hk
    ·omega
 ·refine ⟨q,hq,nB1 fun o ho hb=>?_,nC1 fun o ho hb=>?_⟩
  ·obtain ⟨a1,a2,a3⟩:=lE0.1 hb;exact lE0.2 ⟨a1,a2,a3.imp id (fun h=>by omega)⟩
  ·obtain ⟨a1,a2,a3⟩:=jO0.1 hb;refine jO0.2 ⟨a1,a2,?_⟩
   by_cases hk:o.kind=2
   ·exact Or.inl hk
   ·rcases a3 with a3 | a3
    ·exact absurd a3 hk
    ·exact Or.inr (h2 _ (pF0 ho a1 hk) a3)
theorem fK1 {l:List Ord} {more q:Int} (h:q∈bA0 l more):(⟨q,demO q l,supO q l⟩:Pt)∈aR0 l more:=
 List.mem_map.2 ⟨q,by rw [iY0 (dA0 _),gP0];exact h,rfl⟩
theorem zV0 {l:List Ord} {more:Int} {x:Pt} (h:x∈aR0 l more):x.dem=demO x.price l∧x.sup=supO x.price l∧x.price∈bA0 l more:=by
 obtain ⟨q,hq,rfl⟩:=List.mem_map.1 h;rw [iY0 (dA0 _),gP0] at hq;exact ⟨rfl,rfl,hq⟩
theorem qT0 (l:List Pt) (around:Int):(aN0 l around).qty=(if cG0 l<1 then 0 else cG0 l):=by
 unfold aN0
 by_cases h:cG0 l<1
 ·rw [if_pos h,if_pos h]
 ·rw [if_neg h,if_neg h];exact (mD0 around (by omega)).2
theorem qU0 {l:List Ord} {more:Int} (around p:Int) (hne:bA0 l more≠[]):min (demO p l) (supO p l)≤(aN0 (aR0 l more) around).qty:=by
 obtain ⟨q,hq,h1,h2⟩:=bY1 (l:=l) (more:=more) p hne;have h3:trB ⟨q,demO q l,supO q l⟩≤cG0 (aR0 l more):=oT0 (fK1 hq);have h4:trB ⟨q,demO q l,supO q l⟩=min (demO q l) (supO q l):=rfl;rw [qT0];split <;> omega
theorem bZ1 {l:List Ord} {more:Int} (around:Int) (h:0<(aN0 (aR0 l more) around).qty):
  (aN0 (aR0 l more) around).qty=min (demO (aN0 (aR0 l more) around).price l) (supO (aN0 (aR0 l more) around).price l)∧(aN0 (aR0 l more) around).sur=demO (aN0 (aR0 l more) around).price l - supO (aN0 (aR0 l more) around).price l:=by
 have hm:¬cG0 (aR0 l more)<1:=fun e=>by
  rw [qT0,if_pos e] at h;omega
 have hc:aN0 (aR0 l more) around=quoP (hG0 (aR0 l more) around):=if_neg hm;obtain ⟨h1,_⟩:=mD0 (l:=aR0 l more) around (by omega);obtain ⟨e1,e2,_⟩:=zV0 h1;rw [hc];unfold quoP trB;dsimp only;rw [e1,e2];exact ⟨rfl,rfl⟩
theorem pG0 {l:List Ord} {more:Int} (hl:l.length≤1000) (hp:∀o∈l,-1099511627776≤o.price∧o.price≤1099511627776) (hm:more≤1099511627776):∀x∈aR0 l more,x.Small:=fun x hx=>by
 obtain ⟨e1,e2,h3⟩:=zV0 hx;have a1:=wU0 x.price l;have a2:=wV0 x.price l;refine ⟨?_,by rw [e1];omega,by rw [e2];omega⟩;rcases cU0.1 h3 with ⟨h4,h5⟩ | ⟨o,ho,_,h5⟩
 ·omega
 ·rw [←h5];exact hp o ho
theorem uZ0 (l:List Ord) (more:Int):(aR0 l more).length≤l.length+1:=by
 unfold aR0 sG0;rw [List.length_map];have h1:=oP0 (eJ0 (bA0 l more)) (eJ0 (bA0 l more)).length;have h2:=fX0 (bA0 l more);have h3:=oR0 l more;omega
set_option maxRecDepth 4000 in
set_option maxHeartbeats 1000000 in
theorem rQ1 (F:Nat→Prop) (base mb bt ct:Nat) (m:Mkt) (vb vp vi:Value) (w:World) (h:MkIs w F base mb bt ct m vb vp vi):
  Calls Tryz.prog 18 #[.pointer (some ⟨mb,0,none⟩)] w fun e w'=>e=.returned (.int .i64 (jU0 m))∧MkIs w' F base mb bt ct (gH0 m) vb vp vi∧Out (fun j=>j=mb) w w':=by
 have c10:w.cell? ⟨mb,10,none⟩=some (.int .i64 m.ph):=aA0 (j:=10) h.box rfl;have f10:=aB0 (j:=10) h.box;have H:Hid (MkIs w F base mb bt ct m vb vp vi):=h;clear h
 by_cases h6:m.ph=6
 ·have e6:(m.ph == 6)=true:=beq_iff_eq.2 h6;have HN:Hid (jU0 m=6∧gH0 m=m):=⟨by unfold jU0;rw [if_pos (Or.inl h6)],by unfold gH0;rw [if_pos (Or.inl h6)]⟩;clear h6;go_enter Tryz.func18,Tryz.ntmps18;go_wp2_with fail;go_ret;exact ⟨by rw [HN.out.1];rfl,by rw [HN.out.2];exact H.out,Out.refl _ _⟩
 ·have e6:(m.ph == 6)=false:=beq_eq_false_iff_ne.2 h6
  by_cases h7:m.ph=7
  ·have e7:(m.ph == 7)=true:=beq_iff_eq.2 h7;have HN:Hid (jU0 m=6∧gH0 m=m):=⟨by unfold jU0;rw [if_pos (Or.inr h7)],by unfold gH0;rw [if_pos (Or.inr h7)]⟩;clear h6 h7;go_enter Tryz.func18,Tryz.ntmps18;go_wp2_with fail;go_ret;exact ⟨by rw [HN.out.1];rfl,by rw [HN.out.2];exact H.out,Out.refl _ _⟩
  ·have e7:(m.ph == 7)=false:=beq_eq_false_iff_ne.2 h7;have hno:¬(m.ph=6∨m.ph=7):=fun e=>e.elim h6 h7
   have HN:Hid (jU0 m=0∧gH0 m={ m with ph:=6 }):=⟨by unfold jU0;rw [if_neg hno],by unfold gH0;rw [if_neg hno]⟩;clear h6 h7 hno;go_enter Tryz.func18,Tryz.ntmps18;go_wp2_with fail;go_ret;exact ⟨by rw [HN.out.1];rfl,by rw [HN.out.2];exact H.out.write (j:=10) (m':={ m with ph:=6 }) rfl rfl rfl rfl rfl,aQ0 w ⟨mb,10,none⟩ (.int .i64 6)⟩
set_option maxRecDepth 4000 in
set_option maxHeartbeats 1000000 in
theorem qV0 (F:Nat→Prop) (base mb bt ct:Nat) (m:Mkt) (vb vp vi:Value) (w:World) (h:MkIs w F base mb bt ct m vb vp vi) (hn:0≤m.now∧m.now≤1000000000000) (ht:0≤m.ti∧m.ti≤1000000000000):
  Calls Tryz.prog 47 #[.pointer (some ⟨mb,0,none⟩)] w fun e w'=>e=.returned (.tuple #[])∧MkIs w' F base mb bt ct (volM m) vb vp vi∧Out (fun j=>j=mb) w w':=by
 have c5:w.cell? ⟨mb,5,none⟩=some (.int .i64 m.ti):=aA0 (j:=5) h.box rfl;have c10:w.cell? ⟨mb,10,none⟩=some (.int .i64 m.ph):=aA0 (j:=10) h.box rfl;have c11:w.cell? ⟨mb,11,none⟩=some (.int .i64 m.now):=aA0 (j:=11) h.box rfl;have c12:w.cell? ⟨mb,12,none⟩=some (.int .i64 m.en):=aA0 (j:=12) h.box rfl;have c13:w.cell? ⟨mb,13,none⟩=some (.int .i64 m.lo):=aA0 (j:=13) h.box rfl;have f10:=aB0 (j:=10) h.box;have f12:=aB0 (j:=12) h.box;have f13:=aB0 (j:=13) h.box;have H:Hid (MkIs w F base mb bt ct m vb vp vi):=h;have wr:IntKind.i64.wrap (m.now+m.ti)=m.now+m.ti:=IntWalk.i64_in _ (by omega);clear h;go_enter Tryz.func47,Tryz.ntmps47;go_region
 all_goals go_wp2_with fail
 all_goals refine bodyPost_end (results_none rfl _ _ _) rfl ?_
 all_goals refine ⟨rfl,(((H.out.write (j:=10) (u:=.int .i64 4) (m':={ m with ph:=4 }) rfl rfl rfl rfl rfl).write (j:=12) (u:=.int .i64 (m.now+m.ti)) (m':={ m with ph:=4,en:=m.now+m.ti }) rfl rfl rfl rfl rfl).write (j:=13) (u:=.int .i64 0) (m':=volM m) rfl rfl rfl rfl rfl).drew,?_⟩
 all_goals exact aU0 ((((aQ0 w ⟨mb,10,none⟩ _)).trans (aQ0 _ ⟨mb,12,none⟩ _) (Went.refl _ _)).trans (aQ0 _ ⟨mb,13,none⟩ _) (Went.refl _ _))
def qAgg (q:Quo):Value:=.agg #[.int .i64 q.price,.int .i64 q.qty,.int .i64 q.sur]
set_option maxRecDepth 4000 in
set_option maxHeartbeats 4000000 in
theorem xJ0 (F:Nat→Prop) (base mb bt ct:Nat) (m:Mkt) (vb vp vi:Value) (w:World) (h:MkIs w F base mb bt ct m vb vp vi) (hL:m.L.length≤100) (hok:LOk m.L) (hla:1≤m.la∧m.la≤1000000):
  Calls Tryz.prog 59 #[.pointer (some ⟨mb,0,none⟩)] w fun e w'=>e=.returned (qAgg (aH0 m))∧Below w.heap.size w w':=by
 obtain ⟨ba,bc,hv,hin⟩:=cR0.of_row h.bk;subst hv;have HIN:Hid (cR0 w ba m.L):=hin;have H:Hid (MkIs w F base mb bt ct m (.slice ba m.L.length bc) vp vi):=h;have HSM:Hid (∀x∈aR0 m.L m.la,x.Small):=pG0 (by omega) (fun o ho=>by have:=hok.ok o ho;omega) (by omega);have hcl:(aR0 m.L m.la).length≤1000:=by have:=uZ0 m.L m.la;omega
 have HSS:Hid (∀w',Below w.heap.size w w'→w'.cell? ⟨mb,7,none⟩=some (.slice ba m.L.length bc)∧w'.cell? ⟨mb,4,none⟩=some (.int .i64 m.la)∧Below w.heap.size w w'):=fun w' hb=>⟨aA0 (j:=7) (h.below hb).box rfl,aA0 (j:=4) (h.below hb).box rfl,hb⟩
 have HWO:Hid (aH0 m=aN0 (aR0 m.L m.la) m.la):=rfl;clear h hin hok;go_enter Tryz.func59,Tryz.ntmps59;go_upto_region 1 with fail;have hb0:=bel1 w (.cells #[.int .i64 0,.int .i64 0,.int .i64 0] 69);have hq0:=heap_alloc_new w (.cells #[.int .i64 0,.int .i64 0,.int .i64 0] 69);generalize w.alloc (.cells #[.int .i64 0,.int .i64 0,.int .i64 0] 69)=w1 at hb0 hq0 ⊢;have HB0:Hid (Below w.heap.size w w1):=hb0;have HQ0:Hid (w1.heap[w.heap.size]? = some (.cells #[.int .i64 0,.int .i64 0,.int .i64 0] 69 (0,0))):=hq0;clear hb0 hq0
 go_region_held3 (fun w'=>w'.cell? ⟨mb,7,none⟩=some (.slice ba m.L.length bc)∧w'.cell? ⟨mb,4,none⟩=some (.int .i64 m.la)∧Below w.heap.size w w')
  ((refine HSS.out _ ?_;(repeat' first | exact HB6.out | exact HB5.out | exact HB0.out | assumption | exact lR7 | refine Below.setCell ?_ ?_ _ | refine Below.drew ?_)))
  (first | (go_at_call 105;refine (pA1 ba _ m.L m.la _ (HIN.out.below ?_) (by omega)).mono ?_;(go_split_ands;assumption);rintro e w5 ⟨v5,rfl,hown5,hb1⟩;obtain ⟨ap,cp,rfl,hpt⟩:=gS0.of_row hown5;have HP5:Hid (gS0 w5 ap (aR0 m.L m.la)):=hpt;have HQ5:Hid (w5.heap[w.heap.size]? = some (.cells #[.int .i64 0,.int .i64 0,.int .i64 0] 69 (0,0))):=aC0 (w:=w1.drew) HQ0.out hb1 lR7;have HB5:Hid (Below w.heap.size w w5):=aD0 (w1:=w1.drew) HB0.out.drew hb1;clear hown5 hpt) | (go_at_call 104;refine (kN1 ap _ (aR0 m.L m.la) m.la _ (HP5.out.below ?_) hcl HSM.out (by omega) (by omega)).mono ?_;((repeat' first | assumption | exact Below.refl _ _ | exact lR7 | refine Below.drew ?_ | refine Below.alloc ?_ ?_ _ | (simp;done) | (simp;omega)));rintro e w6 ⟨rfl,hb1⟩;have hq6:w6.heap[w.heap.size]? = some (.cells #[.int .i64 0,.int .i64 0,.int .i64 0] 69 (0,0)):=aC0 HQ5.out hb1 lR7;have HB6:Hid (Below w.heap.size w w6):=aD0 HB5.out hb1;have z0:=aA0 (j:=0) hq6 rfl;have z1:=aA0 (j:=1) hq6 rfl;have z2:=aA0 (j:=2) hq6 rfl;have y0:=aB0 (j:=0) hq6;have y1:=aB0 (j:=1) hq6;have y2:=aB0 (j:=2) hq6;have HQ6:Hid _:=hq6;clear hq6))
 have HW7:=aK0 (j:=2) (.int .i64 (aN0 (aR0 m.L m.la) m.la).sur) (aK0 (j:=1) (.int .i64 (aN0 (aR0 m.L m.la) m.la).qty) (aK0 (j:=0) (.int .i64 (aN0 (aR0 m.L m.la) m.la).price) HQ6.out));have HB7:Hid (Below w.heap.size w (((w6.setCell ⟨w.heap.size,0,none⟩ (.int .i64 (aN0 (aR0 m.L m.la) m.la).price)).setCell ⟨w.heap.size,1,none⟩ (.int .i64 (aN0 (aR0 m.L m.la) m.la).qty)).setCell ⟨w.heap.size,2,none⟩ (.int .i64 (aN0 (aR0 m.L m.la) m.la).sur))):=((HB6.out.setCell (p:=⟨w.heap.size,0,none⟩) lR7 _).setCell (p:=⟨w.heap.size,1,none⟩) lR7 _).setCell (p:=⟨w.heap.size,2,none⟩) lR7 _;clear z0 z1 z2 y0 y1 y2;generalize (((w6.setCell ⟨w.heap.size,0,none⟩ (.int .i64 (aN0 (aR0 m.L m.la) m.la).price)).setCell ⟨w.heap.size,1,none⟩ (.int .i64 (aN0 (aR0 m.L m.la) m.la).qty)).setCell ⟨w.heap.size,2,none⟩ (.int .i64 (aN0 (aR0 m.L m.la) m.la).sur))=w7 at HW7 HB7 ⊢;have q0:w7.cell? ⟨w.heap.size,0,none⟩=some (.int .i64 (aN0 (aR0 m.L m.la) m.la).price):=aA0 (j:=0) HW7 rfl;have q1:w7.cell? ⟨w.heap.size,1,none⟩=some (.int .i64 (aN0 (aR0 m.L m.la) m.la).qty):=aA0 (j:=1) HW7 rfl;have q2:w7.cell? ⟨w.heap.size,2,none⟩=some (.int .i64 (aN0 (aR0 m.L m.la) m.la).sur):=aA0 (j:=2) HW7 rfl;go_wp2_with fail;refine bodyPost_ret (by simp [results,Tryz.results59,go_sem,q0,q1,q2];try rfl) rfl ?_;exact ⟨by rw [HWO.out];rfl,HB7.out⟩
set_option linter.unusedSimpArgs false
theorem xK0 (p:Int) (w:World):Calls Tryz.prog 74 #[.int .i64 p] w fun e w'=>e=.returned (.bool (eE0 p))∧w'=w:=by
 go_enter Tryz.func74,Tryz.ntmps74;go_wp2
 all_goals (go_ret;refine ⟨oL0 ?_,rfl⟩;(first | rfl | (rw [Bool.eq_iff_iff];simp only [dV0,eE0,fP0,Bool.or_eq_true,Bool.and_eq_true,beq_iff_eq,beq_eq_false_iff_ne,ne_eq,decide_eq_true_eq,true_iff,Bool.false_eq_true,false_iff] at *;omega)))
theorem kO1 (z lo hi:Int) (w:World):Calls Tryz.prog 39 #[.int .i64 z,.int .i64 lo,.int .i64 hi] w fun e w'=>e=.returned (.bool (decide (lo≤z)&& decide (z≤hi)))∧w'=w:=by
 go_enter Tryz.func39,Tryz.ntmps39;go_wp2
 all_goals (go_ret;refine ⟨oL0 ?_,rfl⟩;(first | rfl | (rw [Bool.eq_iff_iff];simp only [dV0,eE0,fP0,Bool.or_eq_true,Bool.and_eq_true,beq_iff_eq,beq_eq_false_iff_ne,ne_eq,decide_eq_true_eq,true_iff,Bool.false_eq_true,false_iff] at *;omega)))
theorem vA0 (p k:Int) (w:World):Calls Tryz.prog 42 #[.int .i64 p,.int .i64 k] w fun e w'=>e=.returned (.bool (dV0 p k))∧w'=w:=by
 go_enter Tryz.func42,Tryz.ntmps42;go_wp2_with (go_at_call 39;refine (kO1 _ _ _ _).mono ?_;rintro e w1 ⟨rfl,rfl⟩)
 all_goals (go_ret;refine ⟨oL0 ?_,rfl⟩;(first | rfl | (rw [Bool.eq_iff_iff];simp only [dV0,eE0,fP0,Bool.or_eq_true,Bool.and_eq_true,beq_iff_eq,beq_eq_false_iff_ne,ne_eq,decide_eq_true_eq,true_iff,Bool.false_eq_true,false_iff] at *;omega)))
end Go.Proofs.YtjdkagafdnchhaaGreatDoor
