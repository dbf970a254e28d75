/- DeskPieces: a part of the proof, packed (the readable form: the templates). -/
import Derived.Test.YtaelphbianmckaaGreatDoorQA
import Derived.Test.YtaelphbianmckaaGreatDoorQI
import Derived.Deep.RegionWith
import Derived.Deep.CutRange
namespace Go.Proofs.YtaelphbianmckaaGreatDoor
open Go.RowKit
theorem Mp.more {w W:World} {bb m m' ob rb B:Nat} {vx vf:Value} {b b':BkS} {X:List Ord} {o:Ord} {s:MS} {St:World→List Int→(Nat→Prop)→Prop} {D0 D:Nat→Prop} (h:Mp w W bb m ob rb B vx vf b b' X o s St D0 D) (hm:m≤m') (hs:m'≤900000):Mp w W bb m' ob rb B vx vf b b' X o s St D0 D:=
 ⟨h.old,h.row,h.box,h.res,h.bk.more hm hs,h.lnk,h.fils,h.told,h.out,h.went,h.dees,h.apart⟩
theorem jT1 {X:List Ord} {k:Nat} (h:k<X.length):X.drop k=oAt X k::X.drop (k+1):=by
 rw [List.drop_eq_getElem_cons h]
 congr 1
 simp [oAt,h]
set_option maxRecDepth 4000 in
set_option maxHeartbeats 8000000 in
theorem jU1 (bb m:Nat) (b:BkS) (L:List Ord) (o:Ord) (ga gt:Nat) (fa0 la ft0 lt:Array Value) (al:List Int→Int→Bool) (St:World→List Int→(Nat→Prop)→Prop) (D:Nat→Prop) (w:World) (h:Bk w bb m b) (hm:m≤800000) (hl:Lnk b.S L) (hok:LOk L) (hside:o.side=1∨o.side=2) (hqb:-9223372036854775808≤o.qty∧o.qty≤9223372036854775807) (hF:StE St) (hA:AskE ga fa0 la al St) (hT:TellE gt ft0 lt St) (hst:St w [] D) (hap:∀j,D j→¬b.foot bb j):
  Calls Tryz.prog 238 #[.pointer (some ⟨bb,0,none⟩),.agg #[.int .i64 o.id,.int .i64 o.side,.int .i64 o.kind,.int .i64 o.price,.int .i64 o.qty],.func (.func ga) fa0 la,.func (.func gt) ft0 lt] w
   fun e w'=>mM1 al o L bb m b St D w e w':=by
 obtain ⟨iF,hiF,hF0,hF1,hF2⟩:=info_parts Tryz.infoFp;have HA:Hid (Bk w bb m b):=h;have HL:Hid (Lnk b.S L):=hl;have HK:Hid (LOk L):=hok;have HFF0:Hid (StE St):=hF;have HAF:Hid (AskE ga fa0 la al St):=hA;have HTF:Hid (TellE gt ft0 lt St):=hT;have HST:Hid (St w [] D):=hst;have HAP:Hid (∀j,D j→¬b.foot bb j):=hap;have HS:Hid (o.side=1∨o.side=2):=hside
 obtain ⟨s0,hs0,hs1⟩:∃s0:Nat,s0<2∧3 - o.side=(s0:Int)+1:=by
  rcases hside with e | e
  ·exact ⟨1,by decide,by rw [e];rfl⟩
  ·exact ⟨0,by decide,by rw [e];rfl⟩
 have HS1:Hid (3 - o.side=(s0:Int)+1):=hs1;have hL100:L.length≤100:=rO0 h.ok hl;clear h hl hok hA hT hst hap hside hs1 hF;go_enter Tryz.func238,Tryz.ntmps238;go_wp2_with fail;have hB0:=bel2 w (.cells #[.int .i64 o.id,.int .i64 o.side,.int .i64 o.kind,.int .i64 o.price,.int .i64 o.qty] 92) (.cells #[.int .i64 0,.int .i64 0,.int .i64 0,.int .i64 0,.int .i64 0] 92);have hO0:=eG0 w (.cells #[.int .i64 o.id,.int .i64 o.side,.int .i64 o.kind,.int .i64 o.price,.int .i64 o.qty] 92) (.cells #[.int .i64 0,.int .i64 0,.int .i64 0,.int .i64 0,.int .i64 0] 92);have hR0:=dK0 w (.cells #[.int .i64 o.id,.int .i64 o.side,.int .i64 o.kind,.int .i64 o.price,.int .i64 o.qty] 92) (.cells #[.int .i64 0,.int .i64 0,.int .i64 0,.int .i64 0,.int .i64 0] 92);generalize (w.alloc (.cells #[.int .i64 o.id,.int .i64 o.side,.int .i64 o.kind,.int .i64 o.price,.int .i64 o.qty] 92)).alloc (.cells #[.int .i64 0,.int .i64 0,.int .i64 0,.int .i64 0,.int .i64 0] 92)=w1 at hB0 hO0 hR0 ⊢;refine (oI1 o.side HS.out w1).mono ?_;rintro e w1' ⟨rfl,hw⟩;subst hw;go_wp2_with fail;refine (dY1 bb m s0 b L w1' (HA.out.below hB0 lR7) HL.out hs0 (3 - o.side) HS1.out).mono ?_;rintro e w2 ⟨vx,rfl,hrx,hb2⟩;have hm0:=Mp.start HFF0.out HA.out HL.out HST.out HAP.out hB0 hO0 hR0 lR7 (by omega) (by omega) hrx hb2;have HM0:Hid _:=hm0;have HMO:Hid _:=MOk.start HK.out (3 - o.side) o.qty;obtain ⟨xa,xc,rfl,_,_⟩:=aY0 hrx;have hXl:(aK0 (3 - o.side) L).length≤L.length:=iE0 _ _;generalize hX:aK0 (3 - o.side) L=X at *;have HXE:Hid (aK0 (3 - o.side) L=X):=hX;generalize w1'.heap.size=B at *;clear hX hrx hb2 hB0 hO0 hR0 hm0 HST HAP HS1 HA HL HK;go_wp2_with fail;go_loopw [11,13,14,21] (fun u11 _ _ u21 wr=>∃(k:Nat) (s:MS) (b':BkS) (D':Nat→Prop),u21=.int .i64 k∧k≤X.length∧cH0 al o (X.drop k) s=cH0 al o X ⟨[],L,o.qty,[]⟩∧MOk (X.drop k) s∧s.fs.length≤k∧(-9223372036854775808≤s.q∧s.q≤9223372036854775807)∧Mp w wr bb (m+k) w.heap.size (w.heap.size+1) B (.slice xa X.length xc) u11 b b' X o s St D D') (fun _ _ _ u21 _=>X.length - (intOf u21).toNat)
 case atStart=>exact ⟨0,_,b,D,rfl,Nat.zero_le _,rfl,HMO.out,lR7,hqb,HM0.out⟩
 case round=>
  obtain ⟨k,s,b',D',rfl,hk,hmt,hmo,hfl,hsq,hM⟩:=hrel;have HMT:Hid (cH0 al o (X.drop k) s=cH0 al o X ⟨[],L,o.qty,[]⟩):=hmt;have HM:Hid (Mp w wr bb (m+k) w.heap.size (w.heap.size+1) B (.slice xa X.length xc) u11 b b' X o s St D D'):=hM;have HMK:Hid (MOk (X.drop k) s):=hmo;obtain ⟨fa,fc,rfl,_,_⟩:=aY0 hM.fils;clear hmt hmo HM0 HMO
  by_cases hk1:k<X.length
  ·have hlt:(k:Int)<(X.length:Int):=by omega
   obtain ⟨g,cap,e,d0,d1,d2,d3,d4⟩:=iB0 hM.row hk1;injection e with e1 _ e2;subst e1 e2;have HD:Hid (X.drop k=oAt X k::X.drop (k+1)):=jT1 hk1;generalize oAt X k=x at d0 d1 d2 d3 d4 HD;clear hM;go_upto_region 5 with fail;have hbA:=bel1 wr (.cells #[.int .i64 x.id,.int .i64 x.side,.int .i64 x.kind,.int .i64 x.price,.int .i64 x.qty] 92);have hxA:=heap_alloc_new wr (.cells #[.int .i64 x.id,.int .i64 x.side,.int .i64 x.kind,.int .i64 x.price,.int .i64 x.qty] 92);have hMW:=HM.out.below HFF0.out hbA;generalize wr.alloc (.cells #[.int .i64 x.id,.int .i64 x.side,.int .i64 x.kind,.int .i64 x.price,.int .i64 x.qty] 92)=W at hbA hxA hMW ⊢;have hR:=HM.out.res;clear hbA HM d0 d1 d2 d3 d4;have hxb:w.heap.size+1<wr.heap.size:=lt_of_block hR;clear hR;generalize wr.heap.size=xb at hxA hxb ⊢;have HX:Hid (cP0 W xb x):=hxA;have HM:Hid (Mp w W bb (m+k) w.heap.size (w.heap.size+1) B (.slice (some ⟨g,0,none⟩) X.length xc) (.slice fa s.fs.length fc) b b' X o s St D D'):=hMW;have x0:=aA0 (j:=0) hxA rfl;have x1:=aA0 (j:=1) hxA rfl;have x2:=aA0 (j:=2) hxA rfl;have x3:=aA0 (j:=3) hxA rfl;have x4:=aA0 (j:=4) hxA rfl;have hoA:W.heap[w.heap.size]? = some (.cells #[.int .i64 o.id,.int .i64 o.side,.int .i64 o.kind,.int .i64 o.price,.int .i64 s.q] 92 (0,0)):=hMW.box;have o0:=aA0 (j:=0) hoA rfl;have o1:=aA0 (j:=1) hoA rfl;have o2:=aA0 (j:=2) hoA rfl;have o3:=aA0 (j:=3) hoA rfl;have o4:=aA0 (j:=4) hoA rfl;clear hxA hMW hoA
   by_cases hm2:x.kind=2
   ·have hmb:(x.kind == 2)=true:=beq_iff_eq.2 hm2;have HM2:Hid (cH0 al o (X.drop (k+1)) s=cH0 al o X ⟨[],L,o.qty,[]⟩):=by have:=HMT.out;rw [HD.out,lH0 hm2] at this;exact this
    have HK2:Hid (MOk (X.drop (k+1)) s):=by have h1:=HMK.out;rw [HD.out] at h1;exact h1.pass
    clear hm2;go_wp2_with fail;go_roundw
    case rel=>exact ⟨k+1,s,b',D',by go_num,hk1,HM2.out,HK2.out,by omega,hsq,HM.out.more (by omega) (by omega)⟩
    case measure=>first | (simp [intOf];omega) | (show X.length - (k+1)<X.length - k;omega) | omega
   ·have hmb:(x.kind == 2)=false:=beq_eq_false_iff_ne.2 hm2;have HMN:Hid (x.kind≠2):=hm2;clear hm2;obtain ⟨cc,hcc⟩:∃cc:Bool,(decide (s.q<1) || farB o x)=cc:=⟨_,rfl⟩;have HCC:Hid ((decide (s.q<1) || farB o x)=cc):=hcc;clear hcc;go_upto_region 6 with fail;go_cut [38] from 22 to 71 (fun u38 wc=>u38=.bool cc∧Below W.heap.size W wc)
    case first=>
     by_cases hq:s.q<1
     ·have hqd:decide (s.q<1)=true:=decide_eq_true hq;have HC2:Hid (cc=true):=by have:=HCC.out;rw [hqd,Bool.true_or] at this;exact this.symm
      go_region
      all_goals go_wp2_with fail
      all_goals go_meet
      all_goals exact ⟨by rw [HC2.out],by (repeat' first | assumption | exact Below.refl _ _ | exact lR7 | refine Below.drew ?_ | refine Below.alloc ?_ ?_ _ | (simp;done) | (simp;omega))⟩
     ·have hqd:decide (s.q<1)=false:=decide_eq_false hq
      have HC2:Hid (cc=!(wilP x.price (cE0 o s.q))):=by
       have:=HCC.out;rw [hqd,Bool.false_or] at this;show cc=!(wilP x.price o);rw [oO1 HS.out,Bool.not_not];exact this.symm
      have hbW:=bel1 W (.cells #[.int .i64 x.price] 3);have HBW:Hid (Below W.heap.size W (W.alloc (.cells #[.int .i64 x.price] 3)).drew):=by show Below _ _ _;(repeat' first | assumption | exact Below.refl _ _ | exact lR7 | refine Below.drew ?_ | refine Below.alloc ?_ ?_ _ | (simp;done) | (simp;omega))
      have HNW:Hid ((W.alloc (.cells #[.int .i64 x.price] 3)).drew.heap[W.heap.size]? = some (.cells #[.int .i64 x.price] 3)):=by show _=_;rw [jV0];exact heap_alloc_new _ _
      have hoD:=aD0 (B:=W.heap.size) HM.out.box hbW lR7;have p0:(W.alloc (.cells #[.int .i64 x.price] 3)).cell? ⟨w.heap.size,0,none⟩=some (.int .i64 o.id):=aA0 (j:=0) hoD rfl;have p1:(W.alloc (.cells #[.int .i64 x.price] 3)).cell? ⟨w.heap.size,1,none⟩=some (.int .i64 o.side):=aA0 (j:=1) hoD rfl;have p2:(W.alloc (.cells #[.int .i64 x.price] 3)).cell? ⟨w.heap.size,2,none⟩=some (.int .i64 o.kind):=aA0 (j:=2) hoD rfl;have p3:(W.alloc (.cells #[.int .i64 x.price] 3)).cell? ⟨w.heap.size,3,none⟩=some (.int .i64 o.price):=aA0 (j:=3) hoD rfl;have p4:(W.alloc (.cells #[.int .i64 x.price] 3)).cell? ⟨w.heap.size,4,none⟩=some (.int .i64 s.q):=aA0 (j:=4) hoD rfl;clear hoD hbW;go_region_with (first | (go_at_call 268;refine (oD0 x.price _).mono ?_;rintro e w5 ⟨rfl,rfl⟩) | (go_at_call 286;refine (qZ1 x.price (cE0 o s.q) _ _ HNW.out).mono ?_;rintro e w6 ⟨rfl,hb6⟩))
      all_goals go_wp2_with fail
      all_goals go_meet
      all_goals exact ⟨by rw [HC2.out],HBW.out.trans (hb6.mono HBW.out.size)⟩
    case rest=>
     obtain ⟨rfl,hbc⟩:=hcut;have hMc:=HM.out.below HFF0.out hbc;have hXc:cP0 wc xb x:=aD0 HX.out hbc lR7;clear hbc HM HX x0 x1 x2 x3 x4 o0 o1 o2 o3 o4;have HX:Hid (cP0 wc xb x):=hXc;have HM:Hid (Mp w wc bb (m+k) w.heap.size (w.heap.size+1) B (.slice (some ⟨g,0,none⟩) X.length xc) (.slice fa s.fs.length fc) b b' X o s St D D'):=hMc;have x0:=aA0 (j:=0) hXc rfl;have x1:=aA0 (j:=1) hXc rfl;have x2:=aA0 (j:=2) hXc rfl;have x3:=aA0 (j:=3) hXc rfl;have x4:=aA0 (j:=4) hXc rfl;have hoA:wc.heap[w.heap.size]? = some (.cells #[.int .i64 o.id,.int .i64 o.side,.int .i64 o.kind,.int .i64 o.price,.int .i64 s.q] 92 (0,0)):=hMc.box;have o0:=aA0 (j:=0) hoA rfl;have o1:=aA0 (j:=1) hoA rfl;have o2:=aA0 (j:=2) hoA rfl;have o3:=aA0 (j:=3) hoA rfl;have o4:=aA0 (j:=4) hoA rfl;clear hMc hXc hoA;cases cc with
     | true=>
      have HE0:Hid (cH0 al o X ⟨[],L,o.qty,[]⟩=(s,false)):=by
       have h1:=HMT.out;have h2:=HCC.out
       by_cases hq:s.q<1
       ·rw [eJ0 (by omega)] at h1;exact h1.symm
       ·rw [decide_eq_false hq,Bool.false_or] at h2;rw [HD.out,kH0 (by omega) HMN.out h2] at h1;exact h1.symm
      go_wp2_with fail;have hz:=HM.out.res;have z0:=aA0 (j:=0) hz rfl;have z1:=aA0 (j:=1) hz rfl;have z2:=aA0 (j:=2) hz rfl;have z3:=aA0 (j:=3) hz rfl;have z4:=aA0 (j:=4) hz rfl;have f0:=aB0 (j:=0) hz;have f1:=aB0 (j:=1) hz;have f2:=aB0 (j:=2) hz;have f3:=aB0 (j:=3) hz;have f4:=aB0 (j:=4) hz;have HE:Hid (cH0 al o (aK0 (3 - o.side) L) ⟨[],L,o.qty,[]⟩=(s,false)):=by show _=_;rw [HXE.out];exact HE0.out
      have hend:=HM.out.done HFF0.out;unfold boxed cE0 DBox at hend;have HEND:Hid _:=hend;clear hz hend;go_region
      all_goals go_wp2_with fail
      all_goals generalize (((((wc.setCell ⟨w.heap.size+1,0,none⟩ (.int .i64 o.id)).setCell ⟨w.heap.size+1,1,none⟩ (.int .i64 o.side)).setCell ⟨w.heap.size+1,2,none⟩ (.int .i64 o.kind)).setCell ⟨w.heap.size+1,3,none⟩ (.int .i64 o.price)).setCell ⟨w.heap.size+1,4,none⟩ (.int .i64 s.q)).drew=wz at HEND ⊢
      all_goals have e0:=aA0 (j:=0) HEND.out.1 rfl
      all_goals have e1:=aA0 (j:=1) HEND.out.1 rfl
      all_goals have e2:=aA0 (j:=2) HEND.out.1 rfl
      all_goals have e3:=aA0 (j:=3) HEND.out.1 rfl
      all_goals have e4:=aA0 (j:=4) HEND.out.1 rfl
      all_goals refine bodyPost_ret (by simp [results,Tryz.results238,go_sem,e0,e1,e2,e3,e4];try rfl) rfl ?_
      all_goals exact wH0 HE.out (by omega) HEND.out.2
     | false=>
      have hq1:0<s.q:=by
       have h2:=HCC.out
       by_cases hq:s.q<1
       ·rw [decide_eq_true hq,Bool.true_or] at h2;cases h2
       ·omega
      have HFR:Hid (farB o x=false):=by
       have h2:=HCC.out;rw [Bool.or_eq_false_iff] at h2;exact h2.2
      have HMX:Hid (MOk (x::X.drop (k+1)) s):=by have h1:=HMK.out;rw [HD.out] at h1;exact h1
      have HPX:Hid (1≤x.price∧x.price≤1000000∧1≤x.qty∧x.qty≤1000000):=HMX.out.ok.ok x (HMX.out.here x (List.mem_cons_self ..));go_wp2_with fail;refine (rC1 ga fa0 la x.price (al s.ts x.price) wc HAF.out.enters (fun W'=>Below wc.heap.size wc W') (HAF.out.tells HM.out.told x.price HPX.out.1 HPX.out.2.1)).mono ?_;rintro e w4 ⟨rfl,hb4⟩;have hM4:=HM.out.below HFF0.out hb4;have hX4:cP0 w4 xb x:=aD0 HX.out hb4 lR7;clear hb4 x0 x1 x2 x3 x4 o0 o1 o2 o3 o4 HM HX;have HX:Hid (cP0 w4 xb x):=hX4;have HM:Hid (Mp w w4 bb (m+k) w.heap.size (w.heap.size+1) B (.slice (some ⟨g,0,none⟩) X.length xc) (.slice fa s.fs.length fc) b b' X o s St D D'):=hM4;have x0:=aA0 (j:=0) hX4 rfl;have x1:=aA0 (j:=1) hX4 rfl;have x2:=aA0 (j:=2) hX4 rfl;have x3:=aA0 (j:=3) hX4 rfl;have x4:=aA0 (j:=4) hX4 rfl;have hoA:w4.heap[w.heap.size]? = some (.cells #[.int .i64 o.id,.int .i64 o.side,.int .i64 o.kind,.int .i64 o.price,.int .i64 s.q] 92 (0,0)):=hM4.box;have o0:=aA0 (j:=0) hoA rfl;have o1:=aA0 (j:=1) hoA rfl;have o2:=aA0 (j:=2) hoA rfl;have o3:=aA0 (j:=3) hoA rfl;have o4:=aA0 (j:=4) hoA rfl;clear hM4 hX4 hoA;cases ha:al s.ts x.price with
      | false=>
       have HE0:Hid (cH0 al o X ⟨[],L,o.qty,[]⟩=(s,true)):=by have:=HMT.out;rw [HD.out,iW0 hq1 HMN.out HFR.out ha] at this;exact this.symm
       go_wp2_with fail;have hz:=HM.out.res;have z0:=aA0 (j:=0) hz rfl;have z1:=aA0 (j:=1) hz rfl;have z2:=aA0 (j:=2) hz rfl;have z3:=aA0 (j:=3) hz rfl;have z4:=aA0 (j:=4) hz rfl;have f0:=aB0 (j:=0) hz;have f1:=aB0 (j:=1) hz;have f2:=aB0 (j:=2) hz;have f3:=aB0 (j:=3) hz;have f4:=aB0 (j:=4) hz;have HE:Hid (cH0 al o (aK0 (3 - o.side) L) ⟨[],L,o.qty,[]⟩=(s,true)):=by show _=_;rw [HXE.out];exact HE0.out
       have hend:=HM.out.done HFF0.out;unfold boxed cE0 DBox at hend;have HEND:Hid _:=hend;clear hz hend;go_region
       all_goals go_wp2_with fail
       all_goals generalize (((((w4.setCell ⟨w.heap.size+1,0,none⟩ (.int .i64 o.id)).setCell ⟨w.heap.size+1,1,none⟩ (.int .i64 o.side)).setCell ⟨w.heap.size+1,2,none⟩ (.int .i64 o.kind)).setCell ⟨w.heap.size+1,3,none⟩ (.int .i64 o.price)).setCell ⟨w.heap.size+1,4,none⟩ (.int .i64 s.q)).drew=wz at HEND ⊢
       all_goals have e0:=aA0 (j:=0) HEND.out.1 rfl
       all_goals have e1:=aA0 (j:=1) HEND.out.1 rfl
       all_goals have e2:=aA0 (j:=2) HEND.out.1 rfl
       all_goals have e3:=aA0 (j:=3) HEND.out.1 rfl
       all_goals have e4:=aA0 (j:=4) HEND.out.1 rfl
       all_goals refine bodyPost_ret (by simp [results,Tryz.results238,go_sem,e0,e1,e2,e3,e4];try rfl) rfl ?_
       all_goals exact wH0 HE.out (by omega) HEND.out.2
      | true=>
       have HE0:Hid (cH0 al o (X.drop (k+1)) (hZ0 o x s)=cH0 al o X ⟨[],L,o.qty,[]⟩):=by have:=HMT.out;rw [HD.out,hL0 hq1 HMN.out HFR.out ha] at this;exact this
       have hlots:=HMX.out.lots hq1;go_wp2_with fail;refine (eD1 (cE0 o s.q) x w4 HS.out).mono ?_;rintro e w5 ⟨rfl,hb5⟩;obtain ⟨f,hf⟩:∃f,kG0 o x (min s.q x.qty)=f:=⟨_,rfl⟩;have hff:kG0 (cE0 o s.q) x (min (cE0 o s.q).qty x.qty)=f:=hf;have hfq:f.qty=min s.q x.qty:=by rw [←hf];unfold kG0;split <;> rfl
       rw [hff];have HFF:Hid (kG0 o x (min s.q x.qty)=f):=hf;have HFQ:Hid (f.qty=min s.q x.qty):=hfq;rw [←hfq] at hlots;have hM5:=HM.out.below HFF0.out hb5;have hX5:cP0 w5 xb x:=aD0 HX.out hb5 lR7;have hz5:xb<w5.heap.size:=lt_of_block hX5;clear hb5 x0 x1 x2 x3 x4 o0 o1 o2 o3 o4 HM HX hf hff hfq;have HX:Hid (cP0 w5 xb x):=hX5;have HM:Hid (Mp w w5 bb (m+k) w.heap.size (w.heap.size+1) B (.slice (some ⟨g,0,none⟩) X.length xc) (.slice fa s.fs.length fc) b b' X o s St D D'):=hM5;have HNB:Hid (∀j,(Value.slice fa s.fs.length fc).ownBlock=some j→j<w5.heap.size):=fun j hj=>(hM5.fils.lt j hj).2
       clear hM5 hX5;go_upto_region 10 with fail;have hb6:=bel1 w5 (.cells #[.int .i64 f.buyer,.int .i64 f.seller,.int .i64 f.price,.int .i64 f.qty] 146);have hf6:=heap_alloc_new w5 (.cells #[.int .i64 f.buyer,.int .i64 f.seller,.int .i64 f.price,.int .i64 f.qty] 146);generalize w5.alloc (.cells #[.int .i64 f.buyer,.int .i64 f.seller,.int .i64 f.price,.int .i64 f.qty] 146)=w6 at hb6 hf6 ⊢;have HM6:Hid _:=HM.out.below HFF0.out hb6;have hX6:cP0 w6 xb x:=aD0 HX.out hb6 lR7;generalize w5.heap.size=fb at *;have HF6:Hid (FBox w6 fb f):=hf6;have HX6:Hid (cP0 w6 xb x):=hX6;have x0:w6.cell? ⟨xb,0,none⟩=some (.int .i64 x.id):=aA0 (j:=0) hX6 rfl;have f3:w6.cell? ⟨fb,3,none⟩=some (.int .i64 f.qty):=aA0 (j:=3) hf6 rfl;clear hb6 hf6 hX6 HM HX;go_wp2_with fail;refine (oE0 bb (m+k) b' s.L x f.qty w6 HM6.out.bk (by omega) HM6.out.lnk HMX.out.ok (HMX.out.here x (List.mem_cons_self ..)) ⟨hlots.1,hlots.2.1⟩).mono ?_;rintro e w7 ⟨err,rfl,b2,hl7,hg7⟩;have HM7:Hid _:=HM6.out.cut HFF0.out hg7 hl7;have hX7:cP0 w7 xb x:=aE0 HX6.out hg7.2.1 (HM6.out.bk.farBox HX6.out (by decide) (by decide) (by decide) (by decide) (by decide));have hF7:FBox w7 fb f:=aE0 HF6.out hg7.2.1 (HM6.out.bk.farBox HF6.out (by decide) (by decide) (by decide) (by decide) (by decide));have HX7:Hid (cP0 w7 xb x):=hX7;have HF7:Hid (FBox w7 fb f):=hF7;have hoB:w7.heap[w.heap.size]? = some (.cells #[.int .i64 o.id,.int .i64 o.side,.int .i64 o.kind,.int .i64 o.price,.int .i64 s.q] 92 (0,0)):=HM7.out.box;clear x0 f3 hl7 hg7 HM6 HX6 HF6;have f3:w7.cell? ⟨fb,3,none⟩=some (.int .i64 f.qty):=aA0 (j:=3) hF7 rfl;have o4:=aA0 (j:=4) hoB rfl;have of4:=aB0 (j:=4) hoB;have q4:IntKind.i64.wrap (s.q - f.qty)=s.q - f.qty:=IntWalk.i64_in _ (by omega);clear hoB hX7 hF7;go_upto_region 12 with fail;have hM8:=HM7.out.left HFF0.out (s.q - f.qty);have hX8:cP0 (w7.setCell ⟨w.heap.size,4,none⟩ (.int .i64 (s.q - f.qty))) xb x:=aE0 HX7.out (aN0 w7 ⟨w.heap.size,4,none⟩ (.int .i64 (s.q - f.qty))) (by show ¬xb=w.heap.size;omega);have hF8:FBox (w7.setCell ⟨w.heap.size,4,none⟩ (.int .i64 (s.q - f.qty))) fb f:=aE0 HF7.out (aN0 w7 ⟨w.heap.size,4,none⟩ (.int .i64 (s.q - f.qty))) (by show ¬fb=w.heap.size;omega);generalize w7.setCell ⟨w.heap.size,4,none⟩ (.int .i64 (s.q - f.qty))=w8 at hM8 hX8 hF8 ⊢;have HM8:Hid _:=hM8;have HX8:Hid (cP0 w8 xb x):=hX8;have g0:w8.cell? ⟨fb,0,none⟩=some (.int .i64 f.buyer):=aA0 (j:=0) hF8 rfl;have g1:w8.cell? ⟨fb,1,none⟩=some (.int .i64 f.seller):=aA0 (j:=1) hF8 rfl;have g2:w8.cell? ⟨fb,2,none⟩=some (.int .i64 f.price):=aA0 (j:=2) hF8 rfl;have g3:w8.cell? ⟨fb,3,none⟩=some (.int .i64 f.qty):=aA0 (j:=3) hF8 rfl;clear f3 o4 of4 hM8 hX8 hF8 HM7 HX7 HF7;have hln:s.fs.length≤100:=by omega
       have hwz:w.heap.size≤w8.heap.size:=HM8.out.out.size;go_wp2_with (at_builtin;refine wpList_append_own_at _ rfl _ _ 93 rfl w.heap.size 146 iF (.agg #[.int .i64 0,.int .i64 0,.int .i64 0,.int .i64 0]) 4 32 Tryz.underlying93 hiF hF0 hF1 hF2 rfl (by decide) _ s.fs.length (fV s.fs) rfl (HM8.out.fils.alloc _) ⟨w8.heap.size,0,none⟩ 1 1 [.int .i64 f.buyer,.int .i64 f.seller,.int .i64 f.price,.int .i64 f.qty] rfl rfl (World.news_of_block (cs:=#[.int .i64 f.buyer,.int .i64 f.seller,.int .i64 f.price,.int .i64 f.qty]) (t:=146) (fr:=(0,0)) (heap_alloc_new w8 _)) (by simp [Value.oneCell']) (by unfold maxLen;omega) (by omega) (by simp;omega) ?_;intro v9 w9 hown9 hgrow9 _ _;have hX9:cP0 w9 xb x:=aE0 HX8.out (HM8.out.pushed hgrow9) (aF0 HM8.out.fils HX8.out (by decide));have x9:w9.cell? ⟨xb,3,none⟩=some (.int .i64 x.price):=aA0 (j:=3) hX9 rfl;have HM9:Hid _:=HM8.out.push HFF0.out (f:=f) hgrow9 hown9;clear hX9 hown9 hgrow9 g0 g1 g2 g3);have hone:=HMX.out.one;refine (oN1 gt ft0 lt x.price w9 HTF.out.enters _ (HTF.out.tells HM9.out.told (by show s.ts.length≤1000;omega) x.price HPX.out.1 HPX.out.2.1)).mono ?_;rintro e w10 ⟨rfl,D2,ht,ho,hd⟩;have HM10:Hid _:=HM9.out.tell HFF0.out ht ho hd;have HK2:Hid (MOk (X.drop (k+1)) (hZ0 o x s)):=HMX.out.step o hq1;have HSTP:Hid (hZ0 o x s=⟨s.fs++[f],bE0 x.id f.qty s.L,s.q - f.qty,s.ts++[x.price]⟩):=by show _=_;unfold hZ0;rw [HFF.out,HFQ.out]
       clear ht ho hd HM9 x9;go_wp2_with fail;go_roundw
       case rel=>
        refine ⟨k+1,hZ0 o x s,b2,D2,by go_num,hk1,HE0.out,HK2.out,?_,?_,?_⟩
        ·rw [HSTP.out];show (s.fs++[f]).length≤k+1;rw [List.length_append,List.length_singleton];omega
        ·rw [HSTP.out];show -9223372036854775808≤s.q - f.qty∧s.q - f.qty≤9223372036854775807;omega
        ·rw [HSTP.out];exact HM10.out
       case measure=>first | (simp [intOf];omega) | (show X.length - (k+1)<X.length - k;omega) | omega
  ·have hkx:k=X.length:=by omega
   have hoA:wr.heap[w.heap.size]? = some (.cells #[.int .i64 o.id,.int .i64 o.side,.int .i64 o.kind,.int .i64 o.price,.int .i64 s.q] 92 (0,0)):=hM.box;have o0:=aA0 (j:=0) hoA rfl;have o1:=aA0 (j:=1) hoA rfl;have o2:=aA0 (j:=2) hoA rfl;have o3:=aA0 (j:=3) hoA rfl;have o4:=aA0 (j:=4) hoA rfl;have HE0:Hid (cH0 al o X ⟨[],L,o.qty,[]⟩=(s,false)):=by have:=HMT.out;rw [List.drop_eq_nil_of_le (by omega)] at this;exact this.symm
   clear hM hoA;go_wp2_with fail;have hz:=HM.out.res;have z0:=aA0 (j:=0) hz rfl;have z1:=aA0 (j:=1) hz rfl;have z2:=aA0 (j:=2) hz rfl;have z3:=aA0 (j:=3) hz rfl;have z4:=aA0 (j:=4) hz rfl;have f0:=aB0 (j:=0) hz;have f1:=aB0 (j:=1) hz;have f2:=aB0 (j:=2) hz;have f3:=aB0 (j:=3) hz;have f4:=aB0 (j:=4) hz;have HE:Hid (cH0 al o (aK0 (3 - o.side) L) ⟨[],L,o.qty,[]⟩=(s,false)):=by show _=_;rw [HXE.out];exact HE0.out
   have hend:=HM.out.done HFF0.out;unfold boxed cE0 DBox at hend;have HEND:Hid _:=hend;clear hz hend;go_region
   all_goals go_wp2_with fail
   all_goals generalize (((((wr.setCell ⟨w.heap.size+1,0,none⟩ (.int .i64 o.id)).setCell ⟨w.heap.size+1,1,none⟩ (.int .i64 o.side)).setCell ⟨w.heap.size+1,2,none⟩ (.int .i64 o.kind)).setCell ⟨w.heap.size+1,3,none⟩ (.int .i64 o.price)).setCell ⟨w.heap.size+1,4,none⟩ (.int .i64 s.q)).drew=wz at HEND ⊢
   all_goals have e0:=aA0 (j:=0) HEND.out.1 rfl
   all_goals have e1:=aA0 (j:=1) HEND.out.1 rfl
   all_goals have e2:=aA0 (j:=2) HEND.out.1 rfl
   all_goals have e3:=aA0 (j:=3) HEND.out.1 rfl
   all_goals have e4:=aA0 (j:=4) HEND.out.1 rfl
   all_goals refine bodyPost_ret (by simp [results,Tryz.results238,go_sem,e0,e1,e2,e3,e4];try rfl) rfl ?_
   all_goals exact wH0 HE.out (by omega) HEND.out.2
structure EgSt (eb pb nb:Nat) (vs:Array Value) (M:Mkt) (W:World) (ts:List Int) (D:Nat→Prop):Prop where
 bn:BnAt W nb M.st M.dy M.an (bZ0 M.la ts)
 ptr:W.heap[pb]? = some (.cells #[.pointer (some ⟨eb,0,none⟩)] 30 (0,0))
 box:W.heap[eb]? = some (.cells vs 165 (0,0))
 at1:vs[1]? = some (.pointer (some ⟨nb,0,none⟩))
 dees:D=fun j=>j=nb∨j=pb∨j=eb
theorem rD1 (eb pb nb:Nat) (vs:Array Value) (M:Mkt):StE (EgSt eb pb nb vs M) where
 keep:=fun {w w' ts D S} h ho hS=>by
  have e:=h.dees;subst e;exact ⟨aE0 h.bn ho (hS _ (Or.inl rfl)),aE0 h.ptr ho (hS _ (Or.inr (Or.inl rfl))),aE0 h.box ho (hS _ (Or.inr (Or.inr rfl))),h.at1,rfl⟩
 far:=fun {w ts D} h j hj=>by
  have e:=h.dees;subst e
  have go:∀{j:Nat} {us:Array Value} {t:TypeId},w.heap[j]? = some (.cells us t (0,0))→t≠92→t≠146→j<w.heap.size∧∀vs t fr,w.heap[j]? = some (.cells vs t fr)→t≠92∧t≠146:=fun h0 h1 h2=>⟨lt_of_block h0,fun vs t' fr h3=>by
   rw [h0] at h3;injection h3 with h3;injection h3 with _ h3 _;rw [←h3];exact ⟨h1,h2⟩⟩
  rcases hj with rfl | rfl | rfl
  ·exact go h.bn (by decide) (by decide)
  ·exact go h.ptr (by decide) (by decide)
  ·exact go h.box (by decide) (by decide)
set_option maxRecDepth 100000 in
theorem jV1 (eb pb nb:Nat) (vs:Array Value) (M:Mkt):AskE 239 #[.pointer (some ⟨nb,0,none⟩)] #[] (alM M) (EgSt eb pb nb vs M) where
 enters:=fun args w=>by rfl
 tells:=fun {W ts D} h p _ _=>jD1 nb M.st M.dy M.an (bZ0 M.la ts) p W h.bn
set_option maxRecDepth 4000 in
set_option maxHeartbeats 1000000 in
theorem rE1 (eb pb nb:Nat) (vs:Array Value) (M:Mkt) (W:World) (ts:List Int) (D:Nat→Prop) (p:Int) (h:EgSt eb pb nb vs M W ts D) (hp:1≤p∧p≤1000000):
  Calls Tryz.prog 240 #[.int .i64 p,.pointer (some ⟨pb,0,none⟩)] W fun e W'=>e=.returned (.tuple #[])∧EgSt eb pb nb vs M W' (ts++[p]) D∧Out D W W':=by
 have c0:W.cell? ⟨pb,0,none⟩=some (.pointer (some ⟨eb,0,none⟩)):=aA0 (j:=0) h.ptr rfl;have c1:W.cell? ⟨eb,1,none⟩=some (.pointer (some ⟨nb,0,none⟩)):=aA0 (j:=1) h.box h.at1;have H:Hid (EgSt eb pb nb vs M W ts D):=h;clear h;go_enter Tryz.func240,Tryz.ntmps240;go_wp2_with fail;refine (oG1 nb M.st M.dy M.an (bZ0 M.la ts) p W H.out.bn (nN0 hp)).mono ?_;rintro e w1 ⟨rfl,ho,hb⟩;have HO:Hid (Out (fun j=>j=nb) W w1):=ho;have HB:Hid _:=hb;clear ho hb;go_wp2_with fail;refine bodyPost_end (results_none rfl _ _ _) rfl ?_;have e:=H.out.dees;subst e;refine ⟨rfl,⟨by rw [qA0];exact HB.out,aE0 H.out.ptr HO.out (dV0 H.out.ptr H.out.bn (by decide)),aE0 H.out.box HO.out (dV0 H.out.box H.out.bn (by decide)),H.out.at1,rfl⟩,?_⟩;exact ⟨HO.out.os,HO.out.tape,HO.out.output,HO.out.size,fun j hj hn=>HO.out.block j hj (fun e=>hn (Or.inl e))⟩
set_option maxRecDepth 100000 in
theorem eE1 (eb pb nb:Nat) (vs:Array Value) (M:Mkt):TellE 240 #[] #[.pointer (some ⟨pb,0,none⟩)] (EgSt eb pb nb vs M) where
 enters:=fun args w=>by rfl
 tells:=fun {W ts D} h _ p h1 h2=>(rE1 eb pb nb vs M W ts D p h ⟨h1,h2⟩).mono fun _ _ ⟨he,hs,ho⟩=>⟨he,D,hs,ho,fun _ hj=>Or.inl hj⟩
theorem Eg.ofMeets {w w':World} {eb pb m':Nat} {k:EgK} {M:Mkt} {b':BkS} {L':List Ord} {ts:List Int} {D':Nat→Prop} (h:Eg w eb k M) (hpb:w.heap[pb]? = some (.cells #[.pointer (some ⟨eb,0,none⟩)] 30 (0,0))) (hpt:pb≠k.tb∧pb≠k.cb)
  (ho:Out (fun j=>k.b.foot k.bb j∨(j=k.nb∨j=pb∨j=eb)) w w') (hwt:Went w (k.b.foot k.bb) (b'.foot k.bb)) (hbk:Bk w' k.bb m' b') (hl:Lnk b'.S L') (hm:k.m≤m') (hst:EgSt eb pb k.nb (egV k M) M w' ts D'):
  Eg w' eb { k with m:=m',b:=b' } { M with L:=L',la:=bZ0 M.la ts }∧Out (fun j=>k.foot eb j∨j=pb) w w'∧Went w (k.foot eb) ({ k with m:=m',b:=b':EgK }.foot eb):=by
 have hpk:k.vp.ownBlock≠some pb:=aF0 h.pk hpb (by decide);have hptk:pb≠k.tk:=h.tkn.ne hpb;refine ⟨⟨hst.box,⟨bH0 h.tab.1 ho (fun e=>?_),bR0 h.tab.2 ho (fun e=>?_)⟩,Nat.lt_of_lt_of_le h.tlt ho.size,hst.bn,hbk,hl,aL0 h.pk ho (fun j hj e=>?_),h.tkn.same (ho.block _ h.tkn.lt (fun e=>?_)),fun e=>?_,Nat.le_trans h.few hm,fun j hj e=>?_⟩,?_,?_⟩
 ·rcases e with e | e | e | e
  ·exact h.far _ (Or.inl rfl) (Or.inr (Or.inr (Or.inl e)))
  ·exact h.far _ (Or.inl rfl) (Or.inr (Or.inl e))
  ·exact hpt.1 e.symm
  ·exact h.far _ (Or.inl rfl) (Or.inl e)
 ·rcases e with e | e | e | e
  ·exact h.far _ (Or.inr rfl) (Or.inr (Or.inr (Or.inl e)))
  ·exact h.far _ (Or.inr rfl) (Or.inr (Or.inl e))
  ·exact hpt.2 e.symm
  ·exact h.far _ (Or.inr rfl) (Or.inl e)
 ·rcases e with e | e | e | e
  ·exact h.pkbk hj e
  ·exact h.nbpk (by rw [←e];exact hj)
  ·exact hpk (by rw [←e];exact hj)
  ·exact h.ebpk (by rw [←e];exact hj)
 ·rcases e with e | e | e | e
  ·exact h.tkf e
  ·exact h.nbtk e.symm
  ·exact hptk e.symm
  ·exact h.ebtk e.symm
 ·rcases hwt _ e with e | e
  ·exact h.tkf e
  ·have e':w.heap.size≤k.tk:=e;have:=h.tkn.lt;omega
 ·have hlt:j<w.heap.size:=by
   rcases hj with rfl | rfl
   ·exact h.tlt'
   ·exact h.tlt
  rcases e with e | e | e | e | e
  ·exact h.far j hj (Or.inl e)
  ·exact h.far j hj (Or.inr (Or.inl e))
  ·rcases hwt j e with e | e
   ·exact h.far j hj (Or.inr (Or.inr (Or.inl e)))
   ·omega
  ·exact h.far j hj (Or.inr (Or.inr (Or.inr (Or.inl e))))
  ·exact h.far j hj (Or.inr (Or.inr (Or.inr (Or.inr e))))
 ·refine ⟨ho.os,ho.tape,ho.output,ho.size,fun i hi hn=>ho.block i hi (fun e=>hn ?_)⟩;rcases e with e | e | e | e
  ·exact Or.inl (Or.inr (Or.inr (Or.inl e)))
  ·exact Or.inl (Or.inr (Or.inl e))
  ·exact Or.inr e
  ·exact Or.inl (Or.inl e)
 ·intro j hj;rcases hj with e | e | e | e | e
  ·exact Or.inl (Or.inl e)
  ·exact Or.inl (Or.inr (Or.inl e))
  ·exact (hwt j e).imp (fun e=>Or.inr (Or.inr (Or.inl e))) id
  ·exact Or.inl (Or.inr (Or.inr (Or.inr (Or.inl e))))
  ·exact Or.inl (Or.inr (Or.inr (Or.inr (Or.inr e))))
theorem Eg.farFill {w:World} {eb base n size:Nat} {k:EgK} {M:Mkt} {v:Value} {xs:List Value} (h:Eg w eb k M) (hr:w.ownsRow base 146 size v n xs):∀j,v.ownBlock=some j→¬k.foot eb j:=fun j hj e=>by
 rcases e with e | e | e | e | e
 ·exact aF0 hr h.box (by decide) (by rw [hj,e])
 ·exact aF0 hr h.bn (by decide) (by rw [hj,e])
 ·exact h.bk.farAny hr (by decide) (by decide) (by decide) (by decide) (by decide) j hj e
 ·exact bJ0 hr h.pk (by decide) hj e
 ·rcases hr.2 with ⟨e',_⟩ | ⟨g,cap,cur,e',_,hh,_⟩
  ·rw [e'] at hj;cases hj
  ·rw [e'] at hj;have e2:g=j:=by simpa [Value.ownBlock] using hj
   exact h.tkn.ne hh (e2.trans e)
def metM (M:Mkt) (o:Ord):Mkt:={ M with L:=(bM0 M o).1.L,la:=bZ0 M.la (bM0 M o).1.ts }
theorem eF1 (eb pb:Nat) (k:EgK) (M:Mkt) (o:Ord) (W:World) (h:Eg W eb k M) (hpb:W.heap[pb]? = some (.cells #[.pointer (some ⟨eb,0,none⟩)] 30 (0,0))) (hpt:pb≠k.tb∧pb≠k.cb) (hm:k.m≤700000) (hs:o.side=1∨o.side=2) (hq:-9223372036854775808≤o.qty∧o.qty≤9223372036854775807):
  Calls Tryz.prog 238 #[.pointer (some ⟨k.bb,0,none⟩),.agg #[.int .i64 o.id,.int .i64 o.side,.int .i64 o.kind,.int .i64 o.price,.int .i64 o.qty],.func (.func 239) #[.pointer (some ⟨k.nb,0,none⟩)] #[],.func (.func 240) #[] #[.pointer (some ⟨pb,0,none⟩)]] W
   fun e W'=>∃(vf:Value) (b':BkS),e=.returned (.tuple #[vf,.agg #[.int .i64 o.id,.int .i64 o.side,.int .i64 o.kind,.int .i64 o.price,.int .i64 (bM0 M o).1.q],.bool (bM0 M o).2])∧W'.ownsRow W.heap.size 146 4 vf (bM0 M o).1.fs.length (fV (bM0 M o).1.fs)
    ∧Eg W' eb { k with m:=k.m+100,b:=b' } (metM M o)∧Out (fun j=>k.foot eb j∨j=pb) W W'∧Went W (k.foot eb) ({ k with m:=k.m+100,b:=b':EgK }.foot eb)
    ∧W'.heap[pb]? = some (.cells #[.pointer (some ⟨eb,0,none⟩)] 30 (0,0))
    ∧∀(j:Nat) (vs:Array Value),k.vp.ownBlock≠some j→W.heap[j]? = some (.cells vs 92 (0,0))→W'.heap[j]? = some (.cells vs 92 (0,0)):=by
 have hst:EgSt eb pb k.nb (egV k M) M W [] (fun j=>j=k.nb∨j=pb∨j=eb):=⟨h.bn,hpb,h.box,rfl,rfl⟩;have hpf:¬k.b.foot k.bb pb:=h.bk.farBox hpb (by decide) (by decide) (by decide) (by decide) (by decide);refine (jU1 k.bb k.m k.b M.L o _ _ _ _ _ _ (alM M) _ _ W h.bk (by omega) h.lnk h.lok hs hq (rD1 eb pb k.nb (egV k M) M) (jV1 eb pb k.nb (egV k M) M) (eE1 eb pb k.nb (egV k M) M) hst (fun j hj e=>?_)).mono ?_
 ·rcases hj with rfl | rfl | rfl
  ·exact h.nbbk e
  ·exact hpf e
  ·exact h.ebbk e
 ·rintro e W' ⟨s,t,vf,b',m',D',hmt,hm',rfl,hrow,hbk,hl,hst',ho,hwt,_⟩;have e1:bM0 M o=(s,t):=hmt;unfold metM;rw [e1];obtain ⟨g1,g2,g3⟩:=h.ofMeets hpb hpt ho hwt (hbk.more hm' (by omega)) hl (Nat.le_add_right _ _) hst';refine ⟨vf,b',rfl,hrow,g1,g2,g3,hst'.ptr,fun j vs hv hj=>aE0 hj ho (fun e=>?_)⟩;rcases e with e | e | e | e
  ·exact h.bk.farBox hj (by decide) (by decide) (by decide) (by decide) (by decide) e
  ·exact dV0 hj h.bn (by decide) e
  ·exact dV0 hj hpb (by decide) e
  ·exact dV0 hj h.box (by decide) e
structure TrS (eb pb ob:Nat) (k:EgK) (o:Ord) (w:World):Prop where
 p0:w.cell? ⟨pb,0,none⟩=some (.pointer (some ⟨eb,0,none⟩))
 e2:w.cell? ⟨eb,2,none⟩=some (.pointer (some ⟨k.bb,0,none⟩))
 e1:w.cell? ⟨eb,1,none⟩=some (.pointer (some ⟨k.nb,0,none⟩))
 o0:w.cell? ⟨ob,0,none⟩=some (.int .i64 o.id)
 o1:w.cell? ⟨ob,1,none⟩=some (.int .i64 o.side)
 o2:w.cell? ⟨ob,2,none⟩=some (.int .i64 o.kind)
 o3:w.cell? ⟨ob,3,none⟩=some (.int .i64 o.price)
 o4:w.cell? ⟨ob,4,none⟩=some (.int .i64 o.qty)
theorem fP0 {w w':World} {a:Addr} {v:Value} (h:w.cell? a=some v) (hb:Below w.heap.size w w'):w'.cell? a=some v:=(hb.cell (World.block_lt_of_cell? w _ h)).trans h
theorem TrS.bel {eb pb ob:Nat} {k:EgK} {o:Ord} {w w':World} (h:TrS eb pb ob k o w) (hb:Below w.heap.size w w'):TrS eb pb ob k o w':=
 ⟨fP0 h.p0 hb,fP0 h.e2 hb,fP0 h.e1 hb,fP0 h.o0 hb,fP0 h.o1 hb,fP0 h.o2 hb,fP0 h.o3 hb,fP0 h.o4 hb⟩
theorem cW0 {w:World} {a:Addr} {v:Value} {lb i:Nat} (h:w.cell? a=some v) (hn:lb≠a.block) (u:Value):(w.setCell ⟨lb,i,none⟩ u).cell? a=some v:=bH0 h (aN0 w ⟨lb,i,none⟩ u) (fun e=>hn e.symm)
theorem TrS.set {eb pb ob lb:Nat} {k:EgK} {o:Ord} {w:World} (h:TrS eb pb ob k o w) (hn:lb≠pb∧lb≠eb∧lb≠ob) (i:Nat) (u:Value):TrS eb pb ob k o (w.setCell ⟨lb,i,none⟩ u):=
 ⟨cW0 h.p0 hn.1 u,cW0 h.e2 hn.2.1 u,cW0 h.e1 hn.2.1 u,cW0 h.o0 hn.2.2 u,cW0 h.o1 hn.2.2 u,cW0 h.o2 hn.2.2 u,cW0 h.o3 hn.2.2 u,cW0 h.o4 hn.2.2 u⟩
theorem TrS.open {eb pb ob:Nat} {k:EgK} {o:Ord} {w:World} (h:TrS eb pb ob k o w):w.cell? ⟨pb,0,none⟩=some (.pointer (some ⟨eb,0,none⟩))∧w.cell? ⟨eb,2,none⟩=some (.pointer (some ⟨k.bb,0,none⟩))∧w.cell? ⟨eb,1,none⟩=some (.pointer (some ⟨k.nb,0,none⟩))∧w.cell? ⟨ob,0,none⟩=some (.int .i64 o.id)∧w.cell? ⟨ob,1,none⟩=some (.int .i64 o.side)∧w.cell? ⟨ob,2,none⟩=some (.int .i64 o.kind)∧w.cell? ⟨ob,3,none⟩=some (.int .i64 o.price)∧w.cell? ⟨ob,4,none⟩=some (.int .i64 o.qty):=⟨h.p0,h.e2,h.e1,h.o0,h.o1,h.o2,h.o3,h.o4⟩
theorem Eg.farOrd {w:World} {eb j:Nat} {k:EgK} {M:Mkt} {vs:Array Value} (h:Eg w eb k M) (hj:w.heap[j]? = some (.cells vs 92 (0,0))) (hv:k.vp.ownBlock≠some j):¬k.foot eb j:=fun e=>by
 rcases e with e | e | e | e | e
 ·exact dV0 hj h.box (by decide) e
 ·exact dV0 hj h.bn (by decide) e
 ·exact h.bk.farBox hj (by decide) (by decide) (by decide) (by decide) (by decide) e
 ·exact hv e
 ·exact h.tkn.ne hj e
theorem EgGo.boxed {w w2:World} {eb lb:Nat} {k k2:EgK} {M2:Mkt} {vs:Array Value} (hg:EgGo w w2 eb k k2 M2) (hz:w2.heap[lb]? = some (.cells vs 92 (0,0))) (hlb:w.heap.size≤lb) (ht:k2.tb≠lb∧k2.cb≠lb) (hv:k2.vp.ownBlock≠some lb) (x:Ord):EgGo w (boxed w2 lb x) eb k k2 M2:=by
 have ho:=kI0 w2 lb x;have hf:=hg.1.farOrd hz hv;refine ⟨hg.1.out ho (fun j hj e=>?_),hg.2.1.trans ho (fun j hj=>Or.inr (by rw [show j=lb from hj];exact hlb)),hg.2.2⟩;have e':j=lb:=e;subst e';rcases hj with hj | hj | hj
 ·exact hf hj
 ·exact ht.1 hj.symm
 ·exact ht.2 hj.symm
def jW1 (w:World) (eb:Nat) (k:EgK) (M:Mkt) (o:Ord) (u5 u6 u7:Value) (wc:World):Prop:=
 ∃(lb:Nat) (b':BkS),u6=.pointer (some ⟨lb,0,none⟩)∧u7=.bool (bM0 M o).2∧wc.ownsRow w.heap.size 146 4 u5 (bM0 M o).1.fs.length (fV (bM0 M o).1.fs)∧cP0 wc lb (cE0 o (bM0 M o).1.q)∧w.heap.size≤lb∧EgGo w wc eb k { k with m:=k.m+100,b:=b' } (metM M o)∧wc.heap[w.heap.size]? = some (.cells #[.pointer (some ⟨eb,0,none⟩)] 30 (0,0))
theorem oP1 {w w2:World} {eb:Nat} {k:EgK} {M:Mkt} {o:Ord} {vf:Value} {b':BkS} (hr:w2.ownsRow w.heap.size 146 4 vf (bM0 M o).1.fs.length (fV (bM0 M o).1.fs)) (hg:EgGo w w2 eb k { k with m:=k.m+100,b:=b' } (metM M o)) (hp:w2.heap[w.heap.size]? = some (.cells #[.pointer (some ⟨eb,0,none⟩)] 30 (0,0))):
  jW1 w eb k M o vf (.pointer (some ⟨w2.heap.size,0,none⟩)) (.bool (bM0 M o).2) (w2.alloc (.cells #[.int .i64 o.id,.int .i64 o.side,.int .i64 o.kind,.int .i64 o.price,.int .i64 (bM0 M o).1.q] 92)):=
 ⟨w2.heap.size,b',rfl,rfl,aS0 hr (bel1 _ _) lR7,heap_alloc_new w2 _,hg.2.1.size,hg.bel (bel1 _ _),aD0 hp (bel1 _ _) lR7⟩
theorem oQ1 {w w2:World} {eb lb:Nat} {k:EgK} {M:Mkt} {o:Ord} {vf:Value} {b':BkS} (hr:w2.ownsRow w.heap.size 146 4 vf (bM0 M o).1.fs.length (fV (bM0 M o).1.fs)) (hg:EgGo w w2 eb k { k with m:=k.m+100,b:=b' } (metM M o)) (hp:w2.heap[w.heap.size]? = some (.cells #[.pointer (some ⟨eb,0,none⟩)] 30 (0,0)))
  (hz:ZBox w2 lb) (hlb:w.heap.size≤lb) (ht:k.tb≠lb∧k.cb≠lb) (hv:k.vp.ownBlock≠some lb):
  jW1 w eb k M o vf (.pointer (some ⟨lb,0,none⟩)) (.bool (bM0 M o).2) (((((w2.setCell ⟨lb,0,none⟩ (.int .i64 o.id)).setCell ⟨lb,1,none⟩ (.int .i64 o.side)).setCell ⟨lb,2,none⟩ (.int .i64 o.kind)).setCell ⟨lb,3,none⟩ (.int .i64 o.price)).setCell ⟨lb,4,none⟩ (.int .i64 (bM0 M o).1.q)):=
 show jW1 w eb k M o vf _ _ (boxed w2 lb (cE0 o (bM0 M o).1.q)) from ⟨lb,b',rfl,rfl,aL0 hr (kI0 _ _ _) (fun j hj e=>aF0 hr hz (by decide) (by rw [hj];exact congrArg some e)),yA0 _ hz,hlb,hg.boxed hz hlb ht hv _,aE0 hp (kI0 _ _ _) (fun e=>dV0 hp hz (by decide) e)⟩
set_option maxRecDepth 8000 in
set_option maxHeartbeats 8000000 in
theorem oR1 (eb:Nat) (k:EgK) (M:Mkt) (o:Ord) (w:World) (h:Eg w eb k M) (hm:k.m≤700000) (hs:o.side=1∨o.side=2) (hq:-9223372036854775808≤o.qty∧o.qty≤9223372036854775807) (hid:(Lit.int .i64 o.id).wf=true) (hn:0≤M.now∧M.now≤1000000000000) (ht:0≤M.ti∧M.ti≤1000000000000):
  Calls Tryz.prog 168 #[.pointer (some ⟨eb,0,none⟩),o.agg] w fun e w'=>∃vf k',e=.returned vf∧w'.ownsRow w.heap.size 146 4 vf (dY0 M o).1.length (fV (dY0 M o).1)∧EgGo w w' eb k k' (dY0 M o).2∧k'.m≤k.m+101:=by
 have H:Hid (Eg w eb k M):=h;have HS:Hid (o.side=1∨o.side=2):=hs;have HID:Hid ((Lit.int .i64 o.id).wf=true):=hid;have hpt:w.heap.size≠k.tb∧w.heap.size≠k.cb:=⟨by have:=h.tlt';omega,by have:=h.tlt;omega⟩;have HPT:Hid (w.heap.size≠k.tb∧w.heap.size≠k.cb):=hpt;clear h hs hid hpt;unfold Ord.agg;go_enter Tryz.func168,Tryz.ntmps168;go_upto_region 1 with fail;have hb1:=bel2 w (.cells #[.pointer (some ⟨eb,0,none⟩)] 30) (.cells #[.int .i64 o.id,.int .i64 o.side,.int .i64 o.kind,.int .i64 o.price,.int .i64 o.qty] 92);have hp1:=eG0 w (.cells #[.pointer (some ⟨eb,0,none⟩)] 30) (.cells #[.int .i64 o.id,.int .i64 o.side,.int .i64 o.kind,.int .i64 o.price,.int .i64 o.qty] 92);have ho1:=dK0 w (.cells #[.pointer (some ⟨eb,0,none⟩)] 30) (.cells #[.int .i64 o.id,.int .i64 o.side,.int .i64 o.kind,.int .i64 o.price,.int .i64 o.qty] 92);generalize (w.alloc (.cells #[.pointer (some ⟨eb,0,none⟩)] 30)).alloc (.cells #[.int .i64 o.id,.int .i64 o.side,.int .i64 o.kind,.int .i64 o.price,.int .i64 o.qty] 92)=w1 at hb1 hp1 ho1 ⊢;have HB1:Hid (Below w.heap.size w w1):=hb1;have HP1:Hid _:=hp1;have HO1:Hid _:=ho1;have H1:Hid (Eg w1 eb k M):=H.out.below hb1;have HT1:Hid (TrS eb w.heap.size (w.heap.size+1) k o w1):=⟨aA0 (j:=0) hp1 rfl,aA0 (j:=2) H1.out.box rfl,aA0 (j:=1) H1.out.box rfl,aA0 (j:=0) ho1 rfl,aA0 (j:=1) ho1 rfl,aA0 (j:=2) ho1 rfl,aA0 (j:=3) ho1 rfl,aA0 (j:=4) ho1 rfl⟩;have hvp:∀j,w.heap.size≤j→k.vp.ownBlock≠some j:=fun j hj e=>by have:=(H.out.pk.lt j e).2;omega
 have HVP:Hid (∀j,w.heap.size≤j→k.vp.ownBlock≠some j):=hvp;have HNE:Hid (w1.heap.size≠w.heap.size∧w1.heap.size≠eb∧w1.heap.size≠w.heap.size+1):=by have a1:=lt_of_block ho1;have a2:=lt_of_block H.out.box;exact ⟨by omega,by omega,by omega⟩
 have HLB:Hid (k.tb≠w1.heap.size∧k.cb≠w1.heap.size):=by have a1:=HB1.out.size;have a2:=H.out.tlt;have a3:=H.out.tlt';exact ⟨by omega,by omega⟩
 clear hb1 hp1 ho1 hvp;go_cut [5,6,7] from 8 to 23 (fun u5 u6 u7 wc=>jW1 w eb k M o u5 u6 u7 wc)
 case first=>
  go_region_held3 (fun w'=>w'.cell? ⟨w.heap.size,0,none⟩=some (.pointer (some ⟨eb,0,none⟩))∧w'.cell? ⟨eb,2,none⟩=some (.pointer (some ⟨k.bb,0,none⟩))∧w'.cell? ⟨eb,1,none⟩=some (.pointer (some ⟨k.nb,0,none⟩))∧w'.cell? ⟨w.heap.size+1,0,none⟩=some (.int .i64 o.id)∧w'.cell? ⟨w.heap.size+1,1,none⟩=some (.int .i64 o.side)∧w'.cell? ⟨w.heap.size+1,2,none⟩=some (.int .i64 o.kind)∧w'.cell? ⟨w.heap.size+1,3,none⟩=some (.int .i64 o.price)∧w'.cell? ⟨w.heap.size+1,4,none⟩=some (.int .i64 o.qty))
   ((refine TrS.open ?_;first | exact ((((HT2.out.set HNE.out 0 _).set HNE.out 1 _).set HNE.out 2 _).set HNE.out 3 _).set HNE.out 4 _ | (refine HT2.out.bel ?_;(repeat' first | assumption | exact Below.refl _ _ | exact lR7 | refine Below.drew ?_ | refine Below.alloc ?_ ?_ _ | (simp;done) | (simp;omega))) | (refine HT1.out.bel ?_;(repeat' first | assumption | exact Below.refl _ _ | exact lR7 | refine Below.drew ?_ | refine Below.alloc ?_ ?_ _ | (simp;done) | (simp;omega)))))
   ((go_at_call 238;refine (eF1 eb w.heap.size k M o _ (H1.out.below ?_) (aD0 HP1.out ?_ lR7) HPT.out hm HS.out hq).mono ?_;((repeat' first | assumption | exact Below.refl _ _ | exact lR7 | refine Below.drew ?_ | refine Below.alloc ?_ ?_ _ | (simp;done) | (simp;omega)));((repeat' first | assumption | exact Below.refl _ _ | exact lR7 | refine Below.drew ?_ | refine Below.alloc ?_ ?_ _ | (simp;done) | (simp;omega)));rintro e w2 ⟨vf,b',rfl,hr2,he2,ho2,hw2,hp2,hk2⟩;have hob:=hk2 (w.heap.size+1) _ (HVP.out _ (by omega)) (aD0 HO1.out (by (repeat' first | assumption | exact Below.refl _ _ | exact lR7 | refine Below.drew ?_ | refine Below.alloc ?_ ?_ _ | (simp;done) | (simp;omega))) lR7);have HT2:Hid (TrS eb w.heap.size (w.heap.size+1) k o w2):=⟨aA0 (j:=0) hp2 rfl,aA0 (j:=2) he2.box rfl,aA0 (j:=1) he2.box rfl,aA0 (j:=0) hob rfl,aA0 (j:=1) hob rfl,aA0 (j:=2) hob rfl,aA0 (j:=3) hob rfl,aA0 (j:=4) hob rfl⟩;have HG2:Hid (EgGo w w2 eb k { k with m:=k.m+100,b:=b' } (metM M o)):=⟨he2,(Out.of_below (aC0 HB1.out (by (repeat' first | assumption | exact Below.refl _ _ | exact lR7 | refine Below.drew ?_ | refine Below.alloc ?_ ?_ _ | (simp;done) | (simp;omega)))) lR7).trans ho2 (fun j hj=>hj.imp id (fun e=>by rw [e];exact lR7)),fun j hj=>(hw2 j hj).imp id (fun e=>Nat.le_trans (aC0 HB1.out (by (repeat' first | assumption | exact Below.refl _ _ | exact lR7 | refine Below.drew ?_ | refine Below.alloc ?_ ?_ _ | (simp;done) | (simp;omega)))).size e),rfl,rfl⟩;have HR2:Hid _:=cB0 hr2 (aC0 HB1.out (by (repeat' first | assumption | exact Below.refl _ _ | exact lR7 | refine Below.drew ?_ | refine Below.alloc ?_ ?_ _ | (simp;done) | (simp;omega)))).size;have HP2:Hid _:=hp2;(try (have hz2:=hk2 w1.heap.size #[.int .i64 0,.int .i64 0,.int .i64 0,.int .i64 0,.int .i64 0] (HVP.out _ HB1.out.size) (heap_alloc_new _ _);have z0:=aA0 (j:=0) hz2 rfl;have z1:=aA0 (j:=1) hz2 rfl;have z2:=aA0 (j:=2) hz2 rfl;have z3:=aA0 (j:=3) hz2 rfl;have z4:=aA0 (j:=4) hz2 rfl;have y0:=aB0 (j:=0) hz2;have y1:=aB0 (j:=1) hz2;have y2:=aB0 (j:=2) hz2;have y3:=aB0 (j:=3) hz2;have y4:=aB0 (j:=4) hz2;have HZ2:Hid _:=hz2;clear hz2));clear hr2 he2 ho2 hw2 hp2 hk2 hob))
  all_goals go_wp2_with fail
  all_goals go_meet
  all_goals first | exact oQ1 (lb:=w1.heap.size) HR2.out HG2.out HP2.out HZ2.out HB1.out.size HLB.out (HVP.out _ HB1.out.size) | exact oP1 HR2.out HG2.out HP2.out
 case rest=>
  clear HT1 HP1 HO1 HB1 H1 HNE HLB HPT;obtain ⟨lb,b',rfl,rfl,hr,hx,hlb,hg,hp⟩:=hcut;have HT0:Hid (dY0 M o=((bM0 M o).1.fs,if (bM0 M o).2=true then volM { M with L:=if 0<(bM0 M o).1.q∧o.kind≠2 then addL (cE0 o (bM0 M o).1.q) (bM0 M o).1.L else (bM0 M o).1.L,la:=bZ0 M.la (bM0 M o).1.ts } else { M with L:=if 0<(bM0 M o).1.q∧o.kind≠2 then addL (cE0 o (bM0 M o).1.q) (bM0 M o).1.L else (bM0 M o).1.L,la:=bZ0 M.la (bM0 M o).1.ts })):=rfl;unfold metM at hg;generalize bM0 M o=mt at hr hx hg HT0 ⊢;obtain ⟨s,t⟩:=mt;dsimp only at hr hx hg HT0 ⊢;have HR:Hid (wc.ownsRow w.heap.size 146 4 u5 s.fs.length (fV s.fs)):=hr;have HX:Hid (cP0 wc lb (cE0 o s.q)):=hx;have HG:Hid (EgGo w wc eb k { k with m:=k.m+100,b:=b' } { M with L:=s.L,la:=bZ0 M.la s.ts }):=hg;have HP:Hid (wc.heap[w.heap.size]? = some (.cells #[.pointer (some ⟨eb,0,none⟩)] 30 (0,0))):=hp;have x0:wc.cell? ⟨lb,0,none⟩=some (.int .i64 o.id):=aA0 (j:=0) hx rfl;have x1:wc.cell? ⟨lb,1,none⟩=some (.int .i64 o.side):=aA0 (j:=1) hx rfl;have x2:wc.cell? ⟨lb,2,none⟩=some (.int .i64 o.kind):=aA0 (j:=2) hx rfl;have x3:wc.cell? ⟨lb,3,none⟩=some (.int .i64 o.price):=aA0 (j:=3) hx rfl;have x4:wc.cell? ⟨lb,4,none⟩=some (.int .i64 s.q):=aA0 (j:=4) hx rfl;have p0:wc.cell? ⟨w.heap.size,0,none⟩=some (.pointer (some ⟨eb,0,none⟩)):=aA0 (j:=0) hp rfl;clear hr hx hg hp
  by_cases hl:0<s.q∧o.kind≠2
  ·have HT:Hid (dY0 M o=(s.fs,if t=true then volM { M with L:=addL (cE0 o s.q) s.L,la:=bZ0 M.la s.ts } else { M with L:=addL (cE0 o s.q) s.L,la:=bZ0 M.la s.ts })):=by show _=_;rw [HT0.out,if_pos hl]
   obtain ⟨hq0,hk2⟩:=hl;have kb:(o.kind != 2)=true:=by simpa using hk2
   clear hk2 HT0;go_wp2_with fail;have hx4:=heap_alloc_new wc (.cells #[.int .i64 o.id,.int .i64 o.side,.int .i64 o.kind,.int .i64 o.price,.int .i64 s.q] 92);have hb4:=bel1 wc (.cells #[.int .i64 o.id,.int .i64 o.side,.int .i64 o.kind,.int .i64 o.price,.int .i64 s.q] 92);generalize wc.alloc (.cells #[.int .i64 o.id,.int .i64 o.side,.int .i64 o.kind,.int .i64 o.price,.int .i64 s.q] 92)=w3 at hx4 hb4 ⊢;have h3:=HG.out.1.below hb4
   have hfar:∀b off,some (⟨wc.heap.size,0,none⟩:Addr)=some ⟨b,off,none⟩→¬b'.foot k.bb b:=fun b off e=>by
    injection e with e;injection e with e _ _;rw [←e];exact h3.bk.farBox hx4 (by decide) (by decide) (by decide) (by decide) (by decide)
   have hin:bX0 w3 (some ⟨wc.heap.size,0,none⟩) [cE0 o s.q]:=fun i hi=>by
    have e:i=0:=by simp at hi;omega
    subst e;exact ⟨wc.heap.size,0,rfl,aA0 (j:=0) hx4 rfl,aA0 (j:=1) hx4 rfl,aA0 (j:=2) hx4 rfl,aA0 (j:=3) hx4 rfl,aA0 (j:=4) hx4 rfl⟩
   have HG3:Hid (EgGo w w3 eb k { k with m:=k.m+100,b:=b' } { M with L:=s.L,la:=bZ0 M.la s.ts }):=HG.out.bel hb4;have HR3:Hid (w3.ownsRow w.heap.size 146 4 u5 s.fs.length (fV s.fs)):=aS0 HR.out hb4 lR7;have HP3:Hid _:=aD0 HP.out hb4 lR7;clear hx4 hb4 h3 x0 x1 x2 x3 x4 p0 HG HR HP HX;refine (jS1 eb { k with m:=k.m+100,b:=b' } { M with L:=s.L,la:=bZ0 M.la s.ts } (some ⟨wc.heap.size,0,none⟩) 1 [cE0 o s.q] w3 HG3.out.1 hin (fun x hx=>by rw [List.mem_singleton.1 hx];exact HID.out) hfar (by show k.m+100+1≤900000;omega)).mono ?_;rintro e w4 ⟨rfl,b4,hl4,hg4⟩;have h4:=HG3.out.1.ofBook hg4 hl4 (Nat.le_add_right _ _);have HG4:Hid (EgGo w w4 eb k { k with m:=k.m+100+1,b:=b4 } { M with L:=addL (cE0 o s.q) s.L,la:=bZ0 M.la s.ts }):=HG3.out.trans h4;have HR4:Hid (w4.ownsRow w.heap.size 146 4 u5 s.fs.length (fV s.fs)):=aL0 HR3.out h4.2.1 (HG3.out.1.farFill HR3.out);have HP4:Hid (w4.heap[w.heap.size]? = some (.cells #[.pointer (some ⟨eb,0,none⟩)] 30 (0,0))):=aE0 HP3.out hg4.2.1 (HG3.out.1.bk.farBox HP3.out (by decide) (by decide) (by decide) (by decide) (by decide));clear hl4 hg4 h4 HG3 HR3 HP3 hin hfar;cases t with
   | true=>
    have HTT:Hid (dY0 M o=(s.fs,volM { M with L:=addL (cE0 o s.q) s.L,la:=bZ0 M.la s.ts })):=by show _=_;rw [HT.out];rfl
    have p4:w4.cell? ⟨w.heap.size,0,none⟩=some (.pointer (some ⟨eb,0,none⟩)):=aA0 (j:=0) HP4.out rfl;go_wp2_with fail;refine (mV0 eb { k with m:=k.m+100+1,b:=b4 } { M with L:=addL (cE0 o s.q) s.L,la:=bZ0 M.la s.ts } w4 HG4.out.1 hn ht).mono ?_;rintro e w5 ⟨rfl,h5⟩;have H5:Hid (EgGo w4 w5 eb { k with m:=k.m+100+1,b:=b4 } { k with m:=k.m+100+1,b:=b4 } (volM { M with L:=addL (cE0 o s.q) s.L,la:=bZ0 M.la s.ts })):=h5;have HR5:Hid (w5.ownsRow w.heap.size 146 4 u5 s.fs.length (fV s.fs)):=aL0 HR4.out h5.2.1 (HG4.out.1.farFill HR4.out);clear h5;go_wp2_with fail;go_ret;rw [HTT.out]
    first | exact ⟨u5,_,rfl,HR5.out,HG4.out.trans H5.out,(by show k.m+100+1≤k.m+101;omega)⟩ | exact ⟨u5,rfl,HR5.out,_,HG4.out.trans H5.out,(by show k.m+100+1≤k.m+101;omega)⟩
   | false=>
    have HTT:Hid (dY0 M o=(s.fs,{ M with L:=addL (cE0 o s.q) s.L,la:=bZ0 M.la s.ts })):=by show _=_;rw [HT.out];rfl
    go_wp2_with fail;go_ret;rw [HTT.out]
    first | exact ⟨u5,_,rfl,HR4.out,HG4.out,(by show k.m+100+1≤k.m+101;omega)⟩ | exact ⟨u5,rfl,HR4.out,_,HG4.out,(by show k.m+100+1≤k.m+101;omega)⟩
  ·have HT:Hid (dY0 M o=(s.fs,if t=true then volM { M with L:=s.L,la:=bZ0 M.la s.ts } else { M with L:=s.L,la:=bZ0 M.la s.ts })):=by show _=_;rw [HT0.out,if_neg hl]
   clear HT0 HX;generalize wc=w4 at HG HR HP x0 x1 x2 x3 x4 p0 ⊢;have HG4:Hid (EgGo w w4 eb k { k with m:=k.m+100,b:=b' } { M with L:=s.L,la:=bZ0 M.la s.ts }):=HG.out;have HR4:Hid (w4.ownsRow w.heap.size 146 4 u5 s.fs.length (fV s.fs)):=HR.out;have HP4:Hid (w4.heap[w.heap.size]? = some (.cells #[.pointer (some ⟨eb,0,none⟩)] 30 (0,0))):=HP.out;clear HG HR HP
   by_cases hq0:0<s.q
   ·have hk2:o.kind=2:=Classical.byContradiction (fun e=>hl ⟨hq0,e⟩);have kb:(o.kind != 2)=false:=by simp [hk2]
    clear hk2 hl;cases t with
    | true=>
     have HTT:Hid (dY0 M o=(s.fs,volM { M with L:=s.L,la:=bZ0 M.la s.ts })):=by show _=_;rw [HT.out];rfl
     have p4:w4.cell? ⟨w.heap.size,0,none⟩=some (.pointer (some ⟨eb,0,none⟩)):=aA0 (j:=0) HP4.out rfl;go_wp2_with fail;refine (mV0 eb { k with m:=k.m+100,b:=b' } { M with L:=s.L,la:=bZ0 M.la s.ts } w4 HG4.out.1 hn ht).mono ?_;rintro e w5 ⟨rfl,h5⟩;have H5:Hid (EgGo w4 w5 eb { k with m:=k.m+100,b:=b' } { k with m:=k.m+100,b:=b' } (volM { M with L:=s.L,la:=bZ0 M.la s.ts })):=h5;have HR5:Hid (w5.ownsRow w.heap.size 146 4 u5 s.fs.length (fV s.fs)):=aL0 HR4.out h5.2.1 (HG4.out.1.farFill HR4.out);clear h5;go_wp2_with fail;go_ret;rw [HTT.out]
     first | exact ⟨u5,_,rfl,HR5.out,HG4.out.trans H5.out,(by show k.m+100≤k.m+101;omega)⟩ | exact ⟨u5,rfl,HR5.out,_,HG4.out.trans H5.out,(by show k.m+100≤k.m+101;omega)⟩
    | false=>
     have HTT:Hid (dY0 M o=(s.fs,{ M with L:=s.L,la:=bZ0 M.la s.ts })):=by show _=_;rw [HT.out];rfl
     go_wp2_with fail;go_ret;rw [HTT.out]
     first | exact ⟨u5,_,rfl,HR4.out,HG4.out,(by show k.m+100≤k.m+101;omega)⟩ | exact ⟨u5,rfl,HR4.out,_,HG4.out,(by show k.m+100≤k.m+101;omega)⟩
   ·clear hl;cases t with
    | true=>
     have HTT:Hid (dY0 M o=(s.fs,volM { M with L:=s.L,la:=bZ0 M.la s.ts })):=by show _=_;rw [HT.out];rfl
     have p4:w4.cell? ⟨w.heap.size,0,none⟩=some (.pointer (some ⟨eb,0,none⟩)):=aA0 (j:=0) HP4.out rfl;go_wp2_with fail;refine (mV0 eb { k with m:=k.m+100,b:=b' } { M with L:=s.L,la:=bZ0 M.la s.ts } w4 HG4.out.1 hn ht).mono ?_;rintro e w5 ⟨rfl,h5⟩;have H5:Hid (EgGo w4 w5 eb { k with m:=k.m+100,b:=b' } { k with m:=k.m+100,b:=b' } (volM { M with L:=s.L,la:=bZ0 M.la s.ts })):=h5;have HR5:Hid (w5.ownsRow w.heap.size 146 4 u5 s.fs.length (fV s.fs)):=aL0 HR4.out h5.2.1 (HG4.out.1.farFill HR4.out);clear h5;go_wp2_with fail;go_ret;rw [HTT.out]
     first | exact ⟨u5,_,rfl,HR5.out,HG4.out.trans H5.out,(by show k.m+100≤k.m+101;omega)⟩ | exact ⟨u5,rfl,HR5.out,_,HG4.out.trans H5.out,(by show k.m+100≤k.m+101;omega)⟩
    | false=>
     have HTT:Hid (dY0 M o=(s.fs,{ M with L:=s.L,la:=bZ0 M.la s.ts })):=by show _=_;rw [HT.out];rfl
     go_wp2_with fail;go_ret;rw [HTT.out]
     first | exact ⟨u5,_,rfl,HR4.out,HG4.out,(by show k.m+100≤k.m+101;omega)⟩ | exact ⟨u5,rfl,HR4.out,_,HG4.out,(by show k.m+100≤k.m+101;omega)⟩
end Go.Proofs.YtaelphbianmckaaGreatDoor
