/- ManyWorkers -/
import Derived.Test.YtpodibeogglplaaGreatDoorVG
open Go.RowKit Go.Shelf
open Go.Value renaming int->U, pointer->E, slice->J
open Go.IntKind renaming i64->G
open Go.Obj renaming cells->R
open Go.Ending renaming returned->Y
open Go.Proofs.Tryz
open Array renaming length_toList->UH, getElem?_toList->Yl
open Bool renaming true->G_, false->E_, and_eq_true->SV
open Go renaming World->C_, Value->D_, Calls->Sj, heap_alloc_new->RU, cell_regrown->TJ, redrawn->Vl, Regrown->V_, below_regrown->Uh, wp_region_quiet_below->TU, wpQuiet_nil->Wq, info_parts->Vw, Addr->J_
open Go.Lit renaming int->Tv
open Go.Proofs.YtpodibeogglplaaGreatDoor.Out renaming refl->Tz, of_below->Sz
open Go.RowKit.Below renaming refl->RS, drew->Um, alloc->TR
open Go.Sort renaming grow->Tg
open Go.Value renaming oneCell'->Vk, int->SX
open Go.World renaming ownsRow_nil->Uo
open List renaming take_succ_eq_append_getElem->SQ, filter_eq_self->XJ, filter_congr->Xz, length_append->Sl, mem_singleton->TT, length_cons->SC, length_take->Tq, eraseIdx_eq_take_drop_succ->YC, getElem?_eq_some_iff->Uz, take_append_of_le_length->Wz, take_of_length_le->UW
open Nat renaming le_add_right->Tk, zero_le->Sv, le_succ->Uk, lt_of_lt_of_le->Sn, le_trans->RV, zero_add->Vz
open Option renaming some->A_, none->B_
open Or renaming inr->RN, inl->RP
set_option linter.all false
set_option maxHeartbeats 8000000
set_option maxRecDepth 100000
namespace Go.Proofs.YtpodibeogglplaaGreatDoor
def qU(X:List Ord)(L:List Ord):List Ord:=X.foldl (λL o=>if o.kind=1 then L else kI o.id L) L
variable {l:List Ord} {i:Nat} {L:List Ord} {w:C_} {bb m:Nat} {b b':aU} {eb n:Nat} {k:bC} {M:aG} {wc:C_} {k1:bC} {u3:D_} {w1 w':C_} {a:bC} {r:List dx×aG} {M':aG} {vf:D_} {w2:C_} {p:Ord}
def aU0(L:List Ord)(h:i<l.length):qU (l.take (i+1)) L=if(aO l i).kind=1 then qU (l.take i) L else kI (aO l i).id (qU (l.take i) L):=by
 unfold qU;rw[SQ h,List.foldl_append,<-pG h];rfl
def aNs(hn:(L.map Ord.id).Nodup)(id:Int):kI id L=L.filter λo=>decide (o.id≠id):=by
 unfold kI;rcases DJ id L 0 with h|⟨j,a,h1,h2⟩
 ·have h3:dz id L=-1:=h;rw[RF h3];refine(XJ.2 (λo ho=>?_)).symm;rw[decide_eq_true_eq];intro e;have:=GL id L 0 ⟨o,ho,e⟩;have e2:=h;omega
 ·have h3:dz id L=(j:Int):=by
   have:dz id L=((0+j:Nat):Int):=h1;rw[this];congr 1;omega
  rw[RD o7,show(dz id L).toNat=j by omega,<-h2];exact GA hn a
def LV:∀(X:List Ord) {L:List Ord},(L.map Ord.id).Nodup->qU X L=L.filter λo=>!(X.any λx=>decide (x.kind≠1)&& decide (x.id=o.id))
 |[],L,_=>by
  show L=_;exact(XJ.2 (λo _=>rfl)).symm
 |x::X,L,hn=>by
  show qU X (if x.kind=1 then L else kI x.id L)=_
  by_cases hk:x.kind=1
  ·rw[RF hk,LV X hn];refine Xz (λo _=>?_);rw[List.any_cons,RH (p:=x.kind≠1) (λe=>e hk)];rfl
  ·have a:((L.filter λo=>decide (o.id≠x.id)).map Ord.id).Nodup:=hn.sublist (List.filter_sublist.map _);rw[RD hk,aNs hn,LV X a,List.filter_filter];refine Xz (λo _=>?_);rw[List.any_cons,RI (p:=x.kind≠1) hk]
   by_cases e:o.id=x.id
   ·simp[e]
   ·have b:¬x.id=o.id:=λh=>e h.symm
    simp[e,b]
def aUz(h:dZ L):qU (nL L) L=zW L:=by
 rw[LV _ h.ids];unfold zW;refine Xz (λo ho=>?_);have a:∀x,x∈nL L↔x∈L:=λx=>(EG h).mem_iff
 by_cases hk:o.kind=1
 ·rw[show(o.kind == 1)=G_ by simpa using hk]
  have:((nL L).any λx=>decide (x.kind≠1)&& decide (x.id=o.id))=E_:=by
   rw[List.any_eq_false];intro x c;have b:x.id=o.id->x=o:=λe=>yA h.ids ((a x).1 c) ho e
   simp only[SV,decide_eq_true_eq,not_and];intro h1 h2;exact h1 (by rw[b h2];exact hk)
  rw[this];rfl
 ·rw[show(o.kind == 1)=E_ by simpa using hk]
  have:((nL L).any λx=>decide (x.kind≠1)&& decide (x.id=o.id))=G_:=by
   rw[List.any_eq_true];exact⟨o,(a o).2 ho,by simp[hk]⟩
  rw[this];rfl
def KI{la:Int}(b:dZ L)(a:1<=la/\la<=1000000)(c:0<(bH (bG L la) la).ak):1<=(bH (bG L la) la).price/\(bH (bG L la) la).price<=1000000:=by
 unfold bH at c⊢
 by_cases d:fU (bG L la)<1
 ·rw[RF d]at c;exact absurd c d7
 ·rw[RD d];obtain⟨h1,_⟩:=KJ la (by omega:1<=fU (bG L la));show 1<=(zC (bG L la) la).price/\(zC (bG L la) la).price<=1000000;obtain⟨p,hp,e⟩:=List.mem_map.1 h1;rw[<-e];show 1<=p/\p<=1000000;rw[JB (Am _),Ci,wZ]at hp;rcases hp with⟨_,rfl⟩|⟨o,ho,_,rfl⟩
  ·exact a
  ·have:=b.ok o ho;omega
def aU5{W:C_}(c:Bk W bb m b')(a:sU w W bb b b'):Goes w W bb m b b':=⟨c,a.1,a.2⟩
def Eg.Gi{b size:Nat}{v:D_}{xs:List D_}(h:Eg w eb k M)(c:w.ownsRow b 164 size v n xs):∀j,v.ownBlock=A_ j->¬k.foot eb j:=λj a e=>by
 rcases e with e|e|e|e|e
 ·exact bM c h.box d7 (by rw[a,e])
 ·exact bM c h.bn d7 (by rw[a,e])
 ·exact h.bk.wI c d7 d7 d7 d7 d7 j a e
 ·exact nX c h.pk d7 a e
 ·rcases c.2 with⟨d,_⟩|⟨g,cap,f,d,_,i,_⟩
  ·rw[d]at a;cases a
  ·rw[d]at a;have e2:g=j:=by simpa[Value.ownBlock]using a
   exact h.tkn.ne i (e2.trans e)
def aRu(eb:Nat)(k:bC)(M:aG)(W:C_)(h:Eg W eb k M)(l:k.m<=700000)(i:0<(aV M).ak):
  Sj prog 195 #[E (A_ ⟨k.bb,0,B_⟩),U G (aV M).price,U G (aV M).ak] W
   λe f=>∃(vf:D_) (b':aU),e=Y (.tuple #[vf,.nilIface])/\f.ownsRow W.heap.size 164 4 vf (jl M).1.length (fV (jl M).1)/\Goes W f k.bb (k.m+202) k.b b'/\bD b'.S (jl M).2.L:=by
 have a:=h.qV;have c:pV (aV M).price ⟨[],M.L,(aV M).ak⟩:=QF M.la a i;have h1:(aV M).ak<=dw 1 (aV M).price M.L:=c.buy;have h2:(aV M).ak<=dw 2 (aV M).price M.L:=c.bEx;refine(aOr k.bb k.m k.b M.L (aV M).price (aV M).ak W h.bk (by omega) h.bU a ⟨by omega,by omega⟩).mono ?_;rintro e f ⟨K,vf,rfl,h0,g,b',d⟩;have e1:=aTv c h0 g
 have e2:jl M=((fB (aV M).price ⟨[],M.L,(aV M).ak⟩ K).fs,{ M with L:=(fB (aV M).price ⟨[],M.L,(aV M).ak⟩ K).L,an:=(aV M).price,la:=(aV M).price }):=by
  unfold jl;rw[RF i,e1]
 have j:K<=101:=by
  cases K with
  |zero=>omega
  |succ K=>
   have:=Gm c K g;have e:(⟨[],M.L,(aV M).ak⟩:FS).L.length=M.L.length:=rfl;have:=h.wK;omega
 rw[e2];refine⟨vf,b',rfl,d.gI,aU5 (d.bk.more o7 o7) d.since,d.bU⟩
def Qj(w:C_)(eb:Nat)(k:bC)(M:aG)(u3:D_)(wc:C_):Prop:=
 ∃k1:bC,wc.ownsRow w.heap.size 164 4 u3 (jl M).1.length (fV (jl M).1)/\aZ w wc eb k k1 (jl M).2/\k1.m<=k.m+202
def aJs(h1:wc.ownsRow w.heap.size 164 4 u3 (jl M).1.length (fV (jl M).1))(h2:aZ w wc eb k k1 (jl M).2)(h3:k1.m<=k.m+202):Qj w eb k M u3 wc:=⟨k1,h1,h2,h3⟩
def aBh(eb:Nat)(k:bC)(M:aG)(w:C_)(h:Eg w eb k M)(ha:kX M.ph=G_)(b5:1<=M.la/\M.la<=1000000)(hm:k.m<=700000):
  Sj prog 142 #[E (A_ ⟨eb,0,B_⟩)] w λe w'=>∃vf k',e=Y vf/\w'.ownsRow w.heap.size 164 4 vf (dF M).1.length (fV (dF M).1)/\aZ w w' eb k k' (dF M).2/\k'.m<=k.m+302:=by
 have H:=ah h;have HK:=ah h.qV;have c6:Hid (kR M=aV M):=by show _=_;unfold kR;rw[RF ha]
 clear h ha;go_enter func142,ntmps142;go_wp2_with fail;refine(La eb k M w H b5).mono ?_;rintro e w1 ⟨rfl,V⟩;rw[c6.out];unfold IG;have H1:=ah (H.below V);have a0:=ah V;clear V;go_upto_if 11 with fail;have t:=RU w1 (R #[U G (aV M).price,U G (aV M).ak,U G (aV M).jN] 123);have D:=aM w1 (R #[U G (aV M).price,U G (aV M).ak,U G (aV M).jN] 123);generalize w1.alloc (R #[U G (aV M).price,U G (aV M).ak,U G (aV M).jN] 123)=w2 at t D⊢;have v:=ah (H1.below D);have x:=ah (aJ a0 D);have HX:Hid _:=t;have n:¬k.b.foot k.bb w1.heap.size:=v.bk.kL t d7 d7 d7 d7 d7;have a3:=ah n
 have c:Hid (∀w',Out (k.b.foot k.bb) w2 w'->aF w' eb 2 (E (A_ ⟨k.bb,0,B_⟩))/\aF w' w1.heap.size 0 (U G (aV M).price)/\aF w' w1.heap.size 1 (U G (aV M).ak)/\Out (k.b.foot k.bb) w2 w'):=λw' ho=>by
  have b9:=aH t ho n;exact⟨aj (j:=2) (aH v.box ho v.yh) rfl,aj (j:=0) b9 rfl,aj (j:=1) b9 rfl,ho⟩
 clear t D H1 a0 n;go_cut [3] (λu3 wc=>Qj w eb k M u3 wc)
 case first=>
  by_cases W:0<(aV M).ak
  ·have HQ:=ah W;have a4:Hid (1<=(aV M).price/\(aV M).price<=1000000):=KI HK b5 W;have HE:Hid ((jl M).2={ M with L:=(jl M).2.L,an:=(aV M).price,la:=(aV M).price }):=by show _=_;unfold jl;rw[RF W]
   have gq:=RI W;generalize d5:(aV M).price=pp at HE c HX a4;generalize d6:(aV M).ak=qq at W gq c HX;go_wp2_with fail;rw[gq];go_cut [3] from 12 to 23 (λu3 wc=>∃b',wc.ownsRow w.heap.size 164 4 u3 (jl M).1.length (fV (jl M).1)/\Goes w2 wc k.bb (k.m+202) k.b b'/\bD b'.S (jl M).2.L)
   case first=>
    go_region_held3 (λw'=>aF w' eb 2 (E (A_ ⟨k.bb,0,B_⟩))/\aF w' w1.heap.size 0 (U G pp)/\aF w' w1.heap.size 1 (U G qq)/\Out (k.b.foot k.bb) w2 w')
     ((refine c _ ?_;(first|exact z.out.2.1|exact Tz _ _|exact fI (Tz _ _))))
     ((go_at_call 195;subst d5 d6;refine(aRu eb k M w2.drew v.drew hm HQ).mono ?_;rintro e w3 ⟨vf,b3,rfl,s,f,l⟩;have C:Hid _:=s;have c5:Hid _:=l;have z:Hid (Goes w2 w3 k.bb (k.m+202) k.b b3):=Gz v.bk (RS _ _).drew f;clear s f l))
    all_goals go_wp2_with fail
    all_goals go_meet
    all_goals exact⟨b3,qB C x.size,z,c5⟩
   case rest=>
    obtain⟨b3,s,f,l⟩:=hcut;have C:=ah s;have T:=v.wW f l (Tk _ _);have y:Hid (aZ w2 wc eb k { k with m:=k.m+202,b:=b3 } { M with L:=(jl M).2.L }):=T;have c0:=aH HX f.2.1 a3;have b6:w1.heap.size≠k.nb:=kY HX v.bn d7;have c7:Hid (∀w',Out (λj=>j=k.nb) wc w'->aF w' eb 1 (E (A_ ⟨k.nb,0,B_⟩))/\aF w' w1.heap.size 0 (U G pp)/\Out (λj=>j=k.nb) wc w'):=λw' ho=>⟨aj (j:=1) (aH T.1.box ho v.Dm) rfl,aj (j:=0) (aH c0 ho b6) rfl,ho⟩
    clear s f l T c0 b6;go_upto_region 5 with fail
    go_region_held3 (λw'=>aF w' eb 1 (E (A_ ⟨k.nb,0,B_⟩))/\aF w' w1.heap.size 0 (U G pp)/\Out (λj=>j=k.nb) wc w')
     ((refine c7 _ ?_;(first|exact P|exact Tz _ _|exact fI (Tz _ _))))
     ((go_at_call 196;refine(aM3 k.nb M.st M.dy M.an M.la pp wc.drew y.out.1.drew.bn (DL a4)).mono ?_;rintro e w4 ⟨rfl,b7,a9⟩;have c1:Hid _:=a9;have P:Hid (Out (λj=>j=k.nb) wc w4):=(fI (Tz _ _)).trans b7 (aK.refl _ _);clear b7 a9))
    all_goals go_wp2_with fail
    all_goals go_meet
    all_goals refine aJs (k1:={ k with m:=k.m+202,b:=b3 }) (cu C P (λj hj e=>?_)) ?_ au
    all_goals first|exact bM C y.out.1.bn d7 (hj.trans (RJ A_ e))|(rw[HE.out];exact((aZ.stay H x).trans y).trans (y.out.1.bAr c1 P))
  ·have HE:Hid (jl M=([],M)):=by show _=_;unfold jl;rw[RD W]
   have gq:=RH W;go_wp2_with fail;go_meet;exact aJs (k1:=k) (by rw[HE.out];exact Uo _ _ _ _) (by rw[HE.out];exact aZ.stay H x) (Tk _ _)
 case rest=>
  obtain⟨k1,hr,d,d9⟩:=hcut;have HU:=ah (bHy M);clear HX c v x a3;generalize jl M=um at hr d HU;obtain⟨fs,p⟩:=um;dsimp only at hr d HU;have HR:=ah hr;have O:=ah d;have z:=ah (aUz d.1.qV);have l:(nL p.L).length<=100:=by rw[Kv d.1.qV];exact d.1.wK
  clear hr d;go_wp2_with fail;refine(aBf eb k1 p wc O.out.1).mono ?_;rintro e w5 ⟨v5,rfl,Z,F⟩;obtain⟨a5,n5,rfl,_,_⟩:=lJ Z;generalize hX:nL p.L=X at *;have a6:=ah Z
  have c8:Hid (∀i,i<X.length->(Tv .i64 (aO X i).id).wf=G_):=λi hi=>by
   have h1:aO X i∈nL p.L:=by rw[hX,pG hi];exact List.getElem_mem hi
   exact aEk O.out.1.bk O.out.1.bU ((EG O.out.1.qV).mem_iff.1 h1)
  have a:=ah (O.out.1.below F);have c2:=ah (O.oN F);have a7:Hid (w5.ownsRow w.heap.size 164 4 u3 fs.length (fV fs)):=jw HR F au;clear hX Z F HR O;go_wp2_with fail;go_loopw [34] (λu wr=>∃(i:Nat) (q:aU),u=U G i/\i<=X.length/\bD q.S (qU (X.take i) p.L)/\Goes w5 wr k1.bb (k1.m+i) k1.b q) (λu _=>X.length - (intOf u).toNat)
  case atStart=>exact⟨0,k1.b,rfl,Sv _,a.bU,a.bk,Tz _ _,aK.refl _ _⟩
  case round=>
   obtain⟨i,q,rfl,hi,K,d⟩:=hrel;have B:=ah K;have A:=ah d
   by_cases r:i<X.length
   ·have e0:(i:Int)<(X.length:Int):=o7;have b8:wr.ownsRow wc.heap.size 155 5 (J a5 X.length n5) X.length (oV X):=cu a6 d.2.1 (a.bk.wI a6 d7 d7 d7 d7 d7);obtain⟨g,cap,e1,d0,d1,d2,d3,d4⟩:=EB b8 r;injection e1 with e1 _ e2;subst e1 e2;have a8:=ah (c8 i r);have HS:Hid _:=aU0 p.L r;have HE:Hid (Eg wr eb { k1 with m:=k1.m+i,b:=q } { p with L:=qU (X.take i) p.L }):=(a.wW d K (Tk _ _)).1;generalize aO X i=o at d0 d1 d2 d3 d4 a8 HS;clear d K b8
    by_cases hk:o.kind=1
    ·have Q:Hid (qU (X.take (i+1)) p.L=qU (X.take i) p.L):=by show _=_;rw[HS.out,RF hk]
     have kb:(o.kind != 1)=E_:=by simp[hk]
     clear hk HS;go_wp2_with fail;go_roundw
     case rel=>exact⟨i+1,q,by go_num,r,by rw[Q.out];exact B,Dz (LW A (aM _ _)) ⟨(HE.below (aM _ _)).bk.more (Uk _) o7,Tz _ _,aK.refl _ _⟩⟩
     case measure=>first|(simp[intOf];omega)|(show X.length - (i+1)<X.length - i;omega)|omega
    ·have Q:Hid (qU (X.take (i+1)) p.L=kI o.id (qU (X.take i) p.L)):=by show _=_;rw[HS.out,RD hk]
     have kb:(o.kind != 1)=G_:=by simpa using hk
     clear hk HS;go_upto_region 10 with fail;have t:=RU wr (R #[U G o.id,U G o.side,U G o.kind,U G o.price,U G o.ak] 155);have I:=aM wr (R #[U G o.id,U G o.side,U G o.kind,U G o.price,U G o.ak] 155);generalize wr.alloc (R #[U G o.id,U G o.side,U G o.kind,U G o.price,U G o.ak] 155)=w6 at t I⊢;have h6:=HE.below I;have c3:=ah (LW A I);have n:¬q.foot k1.bb wr.heap.size:=h6.bk.kL t d7 d7 d7 d7 d7;have c:Hid (∀w',Out (q.foot k1.bb) w6 w'->aF w' eb 2 (E (A_ ⟨k1.bb,0,B_⟩))/\aF w' wr.heap.size 0 (U G o.id)/\Out (q.foot k1.bb) w6 w'):=λw' ho=>⟨aj (j:=2) (aH h6.box ho h6.yh) rfl,aj (j:=0) (aH t ho n) rfl,ho⟩
     have a1:=ah h6.bk;clear t I d0 d1 d2 d3 d4 n h6 HE A;have c9:k1.m+i+1<=900000:=o7
     go_region_held3 (λw'=>aF w' eb 2 (E (A_ ⟨k1.bb,0,B_⟩))/\aF w' wr.heap.size 0 (U G o.id)/\Out (q.foot k1.bb) w6 w')
      ((refine c _ ?_;(first|exact a2.out.2.1|exact Tz _ _|exact fI (Tz _ _))))
      ((go_at_call 103;refine(bCf (a1.below (RS _ _).drew au) c9 B o.id a8).mono ?_;rintro e w7 ⟨d8,rfl,_,b2,b4,b0⟩;have c4:Hid _:=b4;have a2:Hid (Goes w6 w7 k1.bb (k1.m+i+1) q b2):=Gz a1 (RS _ _).drew b0;clear b4 b0))
     go_wp2_with fail;go_roundw
     case rel=>exact⟨i+1,b2,by go_num,r,by rw[Q.out];exact c4,Dz c3 a2⟩
     case measure=>first|(simp[intOf];omega)|(show X.length - (i+1)<X.length - i;omega)|omega
   ·obtain rfl:i=X.length:=o7;rw[List.take_length,z.out]at B;clear d K;go_wp2_with fail;go_ret;have N:=a.wW A B (Tk _ _);refine⟨u3,{ k1 with m:=k1.m+X.length,b:=q },rfl,?_,?_,?_⟩
    ·rw[HU.out];exact cu a7 N.2.1 (a.Gi a7)
    ·rw[HU.out];exact c2.trans N
    ·show k1.m+X.length<=k.m+302;omega
def Eg.Nk(h:Eg w eb k M){v':D_}{P':List Ord}(ho:Out (λj=>k.vp.ownBlock=A_ j) w w1)(g:w1.ownsRow 0 155 5 v' P'.length (oV P'))(hn:∀j,v'.ownBlock=A_ j->k.vp.ownBlock=A_ j\/w.heap.size<=j):
  aZ w (w1.setCell ⟨eb,3,B_⟩ v') eb k { k with vp:=v' } { M with P:=P' }:=by
 have c:=aH h.box ho h.yj;have a:=bL w1 ⟨eb,3,B_⟩ v';have d:=bg (j:=3) v' c;have far:∀j,j=k.tb\/j=k.cb->k.vp.ownBlock≠A_ j/\j≠eb:=λj b=>⟨λe=>h.far j b (RN (RN (RN (RP e)))),λe=>h.far j b (RP e)⟩
 have f:=ho.size;refine⟨⟨d,⟨kZ (kZ h.tab.1 ho (far _ (RP rfl)).1) a (far _ (RP rfl)).2,og (og h.tab.2 ho (far _ (RN rfl)).1) a (far _ (RN rfl)).2⟩,Sn h.oD (RV f a.size),aH (aH h.bn ho h.MX) a (λe=>h.Dm e.symm),(h.bk.out ho (λj b e=>h.NI e b)).out a (λj b e=>h.yh (by rw[<-show j=eb from e];exact b)),h.bU,cu g a (λj b e=>bM g c d7 (b.trans (RJ A_ e))),(h.tkn.same (ho.block _ h.tkn.lt h.aGt)).same (a.block _ (Sn h.tkn.lt f) (λe=>h.Bq e.symm)),h.uF,h.few,λj b e=>?_⟩,?_,?_,rfl,rfl⟩
 ·have l:j<w.heap.size:=by
   rcases b with rfl|rfl
   ·exact h.Aq
   ·exact h.oD
  rcases e with e|e|e|e|e
  ·exact h.far j b (RP e)
  ·exact h.far j b (RN (RP e))
  ·exact h.far j b (RN (RN (RP e)))
  ·rcases hn j e with e|e
   ·exact h.far j b (RN (RN (RN (RP e))))
   ·omega
  ·exact h.far j b (RN (RN (RN (RN e))))
 ·have h1:Out (k.foot eb) w w1:=⟨ho.os,ho.tape,ho.output,ho.size,λi hi hn=>ho.block i hi (λe=>hn (RN (RN (RN (RP e)))))⟩;have h2:Out (k.foot eb) w1 (w1.setCell ⟨eb,3,B_⟩ v'):=⟨a.os,a.tape,a.output,a.size,λi hi hn=>a.block i hi (λe=>hn (RP e))⟩;exact iU h1 h2
 ·intro j b;rcases b with e|e|e|e|e
  ·exact RP (RP e)
  ·exact RP (RN (RP e))
  ·exact RP (RN (RN (RP e)))
  ·exact(hn j e).imp (λe=>RN (RN (RN (RP e)))) id
  ·exact RP (RN (RN (RN (RN e))))
def Eg.aFl(h:Eg w eb k M):aZ w (w.setCell ⟨eb,3,B_⟩ (J B_ 0 0)) eb k { k with vp:=J B_ 0 0 } { M with P:=[] }:=
 h.Nk (P':=[]) (Tz _ _) (Uo _ _ _ _) (λj a=>by cases a)
def Eg.bAt(h:Eg w eb k M){c:Nat}(m:Below w.heap.size w w1)(l:Bk w1 c 0 b')(p:bD b'.S [])(f:∀j,b'.foot c j->w.heap.size<=j):
  aZ w (w1.setCell ⟨eb,2,B_⟩ (E (A_ ⟨c,0,B_⟩))) eb k { k with bb:=c,b:=b' } { M with L:=[] }:=by
 have h1:=h.below m;have a:=bL w1 ⟨eb,2,B_⟩ (E (A_ ⟨c,0,B_⟩));have g:=bg (j:=2) (E (A_ ⟨c,0,B_⟩)) h1.box;have n:=lt_of_block h.box;refine⟨⟨g,⟨kZ h1.tab.1 a (λe=>h.far _ (RP rfl) (RP e)),og h1.tab.2 a (λe=>h.far _ (RN rfl) (RP e))⟩,Sn h1.oD a.size,aH h1.bn a (λe=>h.Dm e.symm),(l.out a (λj d e=>by have:=f j d;have o:j=eb:=e;omega)).more (Sv _) h.bk.steps,p,cu h1.pk a (λj d e=>h.yj (by rw[<-show j=eb from e];exact d)),h1.tkn.same (a.block _ h1.tkn.lt (λe=>h.Bq e.symm)),λe=>?_,h.few,λj d e=>?_⟩,?_,?_,rfl,rfl⟩
 ·have:=f _ e;have h2:=h.tkn.lt;have o:w.heap.size<=k.tk:=this;omega
 ·have q:j<w.heap.size:=by
   rcases d with rfl|rfl
   ·exact h.Aq
   ·exact h.oD
  rcases e with e|e|e|e|e
  ·exact h.far j d (RP e)
  ·exact h.far j d (RN (RP e))
  ·have:=f j e;omega
  ·exact h.far j d (RN (RN (RN (RP e))))
  ·exact h.far j d (RN (RN (RN (RN e))))
 ·have h2:Out (k.foot eb) w1 (w1.setCell ⟨eb,2,B_⟩ (E (A_ ⟨c,0,B_⟩))):=⟨a.os,a.tape,a.output,a.size,λi hi hn=>a.block i hi (λe=>hn (RP e))⟩;exact iU (Sz m au) h2
 ·intro j d;rcases d with e|e|e|e|e
  ·exact RP (RP e)
  ·exact RP (RN (RP e))
  ·exact RN (f j e)
  ·exact RP (RN (RN (RN (RP e))))
  ·exact RP (RN (RN (RN (RN e))))
def aBe(eb:Nat)(k:bC)(M:aG)(w:C_)(h:Eg w eb k M)(K:M.P.length<=100)(s:∀o∈M.P,(Tv .i64 o.id).wf=G_)(L:k.m<=700000):
  Sj prog 110 #[E (A_ ⟨eb,0,B_⟩)] w λe w'=>∃k',e=Y (.tuple #[])/\aZ w w' eb k k' (xX M)/\k'.m<=k.m+100:=by
 have A:w.cell? ⟨eb,5,B_⟩=A_ (U G M.ph):=aj (j:=5) h.box rfl;have C:=aI (j:=5) h.box;have h1:=h.write (j:=5) (u:=U G 5) (M':={ M with ph:=5 }) rfl rfl rfl rfl rfl ⟨rfl,rfl,rfl,rfl⟩;have y:=ah s;clear h s;go_enter func110,ntmps110;go_upto_region 1 with fail;generalize w.setCell ⟨eb,5,B_⟩ (U G 5)=w1 at h1⊢;obtain⟨q,t,a,f⟩:=jV.pI h1.1.pk;have z:w1.cell? ⟨eb,3,B_⟩=A_ (J q M.P.length t):=(aj (j:=3) (v:=k.vp) h1.1.box rfl).trans (by rw[a])
 have c:∀b off,q=A_ ⟨b,off,B_⟩->¬k.b.foot k.bb b:=λb off e=>by
  rcases h1.1.pk.2 with⟨e1,_⟩|⟨g,cap,B,e1,_,D,_⟩
  ·rw[a,e]at e1;cases e1
  ·rw[a,e]at e1;injection e1 with e1 _ _;injection e1 with e1;injection e1 with e1 _ _;subst e1;exact h1.1.bk.kL D d7 d7 d7 d7 d7
 have l:=ah h1;have n:=ah f;have x:=ah c;have p:k.m+M.P.length<=900000:=o7;clear h1 A C a f c;go_wp2_with fail;refine(Gc eb k { M with ph:=5 } q t M.P w1 l.out.1 n.out y.out x.out p).mono ?_;rintro e w2 ⟨rfl,F,i,d⟩;have h2:=l.out.1.wW d i (Tk _ _);have H:w2.cell? ⟨eb,3,B_⟩=A_ k.vp:=aj (j:=3) h2.1.box rfl;have I:=aI (j:=3) h2.1.box;have r:=ah (l.out.trans h2);clear h2 i d z;go_wp2_with fail;refine bodyPost_end (results_none rfl _ _ _) rfl ?_;refine⟨_,rfl,r.out.trans r.out.1.aFl,?_⟩;show k.m+M.P.length<=k.m+100;omega
def lC(M:aG):List dx×aG:=((if M.ph=5 then(dF M).1 else []),{ (if M.ph=5 then(dF M).2 else M)with L:=[],P:=[],ph:=7 })
def PZ(w:C_)(eb:Nat)(k:bC)(M:aG)(u3:D_)(wc:C_):Prop:=
 ∃k1:bC,wc.ownsRow w.heap.size 164 4 u3 (lC M).1.length (fV (lC M).1)/\aZ w wc eb k k1 (if M.ph=5 then(dF M).2 else M)/\k1.m<=k.m+302
def aCb(h1:wc.ownsRow w.heap.size 164 4 u3 (lC M).1.length (fV (lC M).1))(h2:aZ w wc eb k k1 (if M.ph=5 then(dF M).2 else M))(h3:k1.m<=k.m+302):PZ w eb k M u3 wc:=⟨k1,h1,h2,h3⟩
def aRv(eb:Nat)(k:bC)(M:aG)(w:C_)(h:Eg w eb k M)(s:1<=M.la/\M.la<=1000000)(F:k.m<=700000):
  Sj prog 105 #[E (A_ ⟨eb,0,B_⟩)] w λe w'=>∃vf k',e=Y vf/\w'.ownsRow w.heap.size 164 4 vf (lC M).1.length (fV (lC M).1)/\aZ w w' eb k k' (lC M).2/\k'.m<=k.m+302:=by
 have t:w.cell? ⟨eb,5,B_⟩=A_ (U G M.ph):=aj (j:=5) h.box rfl;have H:=ah h;clear h;go_enter func105,ntmps105;go_upto_if 8 with fail;go_cut [3] (λu3 wc=>PZ w eb k M u3 wc)
 case first=>
  by_cases a:M.ph=5
  ·have y:Hid (kX M.ph=G_):=by show _=_;rw[a];rfl
   have HE:Hid ((lC M).1=(dF M).1/\(if M.ph=5 then(dF M).2 else M)=(dF M).2):=⟨by unfold lC;rw[RF a],RF a⟩;have v:=beq_iff_eq.2 a;clear a;go_wp2_with fail;rw[v];go_wp2_with fail;refine(aBh eb k M w H.out y.out s F).mono ?_;rintro e w1 ⟨vf,k1,rfl,i,g,hk⟩;have o:Hid _:=i;have d:Hid _:=g;clear i g;go_wp2_with fail;go_meet;exact aCb (k1:=k1) (by rw[HE.out.1];exact o.out) (by rw[HE.out.2];exact d.out) hk
  ·have HE:Hid ((lC M).1=[]/\(if M.ph=5 then(dF M).2 else M)=M):=⟨by unfold lC;rw[RD a],RD a⟩;have v:=RG.2 a;clear a;go_wp2_with fail;go_meet;exact aCb (k1:=k) (by rw[HE.out.1];exact Uo _ _ _ _) (by rw[HE.out.2];exact aZ.refl H.out) (Tk _ _)
 case rest=>
  obtain⟨k1,i,g,hk⟩:=hcut;have c:Hid (lC M=((lC M).1,{ (if M.ph=5 then(dF M).2 else M)with L:=[],P:=[],ph:=7 })):=rfl;generalize(if M.ph=5 then(dF M).2 else M)=M1 at g c;generalize(lC M).1=fs at i c;have o:=ah i;have d:=ah g;clear i g t;go_wp2_with fail;refine(aGl wc).mono ?_;rintro e w2 ⟨rfl,n,b⟩;have h2:=d.out.1.bAt b n bD.start (λj D=>Na wc D);have z:w2.cell? ⟨eb,2,B_⟩=A_ (E (A_ ⟨k1.bb,0,B_⟩)):=aj (j:=2) (d.out.1.below b).box rfl;have B:=aI (j:=2) (d.out.1.below b).box;have h3:=h2.1.aFl;have A:(w2.setCell ⟨eb,2,B_⟩ (E (A_ ⟨wc.heap.size+2,0,B_⟩))).cell? ⟨eb,3,B_⟩=A_ k1.vp:=aj (j:=3) h2.1.box rfl;have C:=aI (j:=3) h2.1.box;have l:=h2.trans h3;have p:=ah l;clear l;have f:Hid _:=cu o.out (h2.trans h3).2.1 (d.out.1.Gi o.out);clear n b h2;go_upto_region 5 with fail;generalize(w2.setCell ⟨eb,2,B_⟩ (E (A_ ⟨wc.heap.size+2,0,B_⟩))).setCell ⟨eb,3,B_⟩ (J B_ 0 0)=w3 at h3 p f⊢;have t:w3.cell? ⟨eb,5,B_⟩=A_ (U G M1.ph):=aj (j:=5) h3.1.box rfl;have I:=aI (j:=5) h3.1.box;have r:=h3.1.write (j:=5) (u:=U G 7) (M':={ M1 with L:=[],P:=[],ph:=7 }) rfl rfl rfl rfl rfl ⟨rfl,rfl,rfl,rfl⟩;have x:=ah ((d.out.trans p.out).trans r);have q:Hid _:=cu f.out r.2.1 (p.out.1.Gi f.out);clear h3 r z B A C;go_wp2_with fail;go_ret;rw[c.out];exact⟨u3,_,rfl,q.out,x.out,hk⟩
def fE(w w':C_)(eb:Nat)(k:bC)(r:List dx×aG)(vf:D_):Prop:=∃k',w'.ownsRow w.heap.size 164 4 vf r.1.length (fV r.1)/\aZ w w' eb k k' r.2/\k'.m<=k.m+302
def fE.mk'{fs:List dx}(b:r=(fs,M'))(h1:w'.ownsRow w.heap.size 164 4 vf fs.length (fV fs))(h2:aZ w w' eb k a M')(h3:a.m<=k.m+302):fE w w' eb k r vf:=by
 subst b;exact⟨a,h1,h2,h3⟩
def fE.none_(b:r=([],M'))(h2:aZ w w' eb k a M')(h3:a.m<=k.m+302):fE w w' eb k r (J B_ 0 0):=fE.mk' b (Uo _ _ _ _) h2 h3
def fE.from_{d:aG}(h:aZ w w1 eb k k d)(h1:fE w1 w2 eb k r vf):fE w w2 eb k r vf:=by
 obtain⟨e,a,b,c⟩:=h1;exact⟨e,qB a h.2.1.size,h.trans b,c⟩
def qY(M:aG):List dx×aG:=((dF M).1,{ (dF M).2 with ph:=3 })
def Lb(eb:Nat)(k:bC)(M:aG)(w:C_)(h:Eg w eb k M)(i:kX M.ph=G_)(g:1<=M.la/\M.la<=1000000)(n:k.m<=700000):
  Sj prog 143 #[E (A_ ⟨eb,0,B_⟩)] w λe w'=>∃vf,e=Y vf/\fE w w' eb k (qY M) vf:=by
 have H:=ah h;have l:=ah i;have a:Hid (qY M=((dF M).1,{ (dF M).2 with ph:=3 })):=rfl;clear h i;go_enter func143,ntmps143;go_wp2_with fail;refine(aBh eb k M w H.out l.out g n).mono ?_;rintro e w1 ⟨vf,k1,rfl,c,b,hk⟩;generalize(dF M).1=fs at c a;generalize(dF M).2=M1 at b a;have o:w1.cell? ⟨eb,5,B_⟩=A_ (U G M1.ph):=aj (j:=5) b.1.box rfl;have p:=aI (j:=5) b.1.box;have h2:=b.1.write (j:=5) (u:=U G 3) (M':={ M1 with ph:=3 }) rfl rfl rfl rfl rfl ⟨rfl,rfl,rfl,rfl⟩;have f:Hid _:=cu c h2.2.1 (b.1.Gi c);have d:=ah (b.trans h2);clear c b h2;go_wp2_with fail;go_ret;exact⟨vf,rfl,fE.mk' a.out f.out d.out hk⟩
def sK(p:Int)(M:aG):List dx×aG:=if p=3 then qY M else if p=5 then([],xX M)else([],{ M with ph:=p })
def aSj(eb:Nat)(k:bC)(M:aG)(p:Int)(w:C_)(h:Eg w eb k M)(g:p=3->kX M.ph=G_)(f:1<=M.la/\M.la<=1000000)(y:M.P.length<=100)(q:∀o∈M.P,(Tv .i64 o.id).wf=G_)(l:k.m<=700000):
  Sj prog 106 #[E (A_ ⟨eb,0,B_⟩),U G p] w λe w'=>∃vf,e=Y vf/\fE w w' eb k (sK p M) vf:=by
 have H:=ah h;have r:=ah g;have t:=ah q;have z:w.cell? ⟨eb,5,B_⟩=A_ (U G M.ph):=aj (j:=5) h.box rfl;have A:=aI (j:=5) h.box;clear h g q
 by_cases h3:p=3
 ·have b:Hid (sK p M=qY M):=by show _=_;unfold sK;rw[RF h3]
  have c:=ah (r.out h3);have v:=beq_iff_eq.2 h3;clear h3;go_enter func106,ntmps106;go_wp2_with fail;refine(Lb eb k M w H.out c.out f l).mono ?_;rintro e w1 ⟨vf,rfl,n⟩;have d:Hid _:=n;clear n;go_wp2_with fail;go_ret;exact⟨vf,rfl,by rw[b.out];exact d.out⟩
 ·have v:=RG.2 h3
  by_cases a:p=5
  ·have b:Hid (sK p M=([],xX M)):=by show _=_;unfold sK;rw[RD h3,RF a]
   have x:=beq_iff_eq.2 a;clear h3 a;go_enter func106,ntmps106;go_wp2_with fail;refine(aBe eb k M w H.out y t.out l).mono ?_;rintro e w1 ⟨k1,rfl,i,hk⟩;have s:Hid _:=i;clear i;go_wp2_with fail;go_ret;exact⟨_,rfl,fE.none_ b.out s.out (RV hk o7)⟩
  ·have b:Hid (sK p M=([],{ M with ph:=p })):=by show _=_;unfold sK;rw[RD h3,RD a]
   have x:=RG.2 a;clear h3 a;go_enter func106,ntmps106;go_wp2_with fail;go_ret;exact⟨_,rfl,fE.none_ b.out (H.out.write (j:=5) (u:=U G p) (M':={ M with ph:=p }) rfl rfl rfl rfl rfl ⟨rfl,rfl,rfl,rfl⟩) (Tk _ _)⟩
def sF(M:aG):List dx×aG:=if(aV M).ak=0\/nM M.st M.an (aV M).price=G_ then qY M else if M.lo<M.mo then([],{ M with lo:=M.lo+1,en:=M.now+M.ti })else([],{ M with ph:=6 })
def aSa(eb:Nat)(k:bC)(M:aG)(w:C_)(h:Eg w eb k M)(Q:kX M.ph=G_)(A:1<=M.la/\M.la<=1000000)(hn:0<=M.now/\M.now<=1000000000000)(D:0<=M.ti/\M.ti<=1000000000000)(a0:0<=M.lo/\M.lo<=1000000)(hm:k.m<=700000):
  Sj prog 107 #[E (A_ ⟨eb,0,B_⟩)] w λe w'=>∃vf,e=Y vf/\fE w w' eb k (sF M) vf:=by
 have H:=ah h;have Z:=ah Q;have L:Hid (kR M=aV M):=by show _=_;unfold kR;rw[RF Q]
 have a1:IntKind.i64.wrap (M.now+M.ti)=M.now+M.ti:=IntWalk.i64_in _ o7;clear h Q;go_enter func107,ntmps107;go_wp2_with fail;refine(La eb k M w H.out A).mono ?_;rintro e w1 ⟨rfl,z⟩;rw[L.out];unfold IG;have W:=ah (H.out.below z);have I:=ah z;clear z;go_upto_region 3 with fail;have K:=RU w1 (R #[U G (aV M).price,U G (aV M).ak,U G (aV M).jN] 123);have o:=aM w1 (R #[U G (aV M).price,U G (aV M).ak,U G (aV M).jN] 123);generalize w1.alloc (R #[U G (aV M).price,U G (aV M).ak,U G (aV M).jN] 123)=w2 at K o⊢;have F:=ah (W.out.below o);have s:=ah (aJ I.out o);have T:=TJ (aj (j:=0) (v:=U G (aV M).price) K rfl);have V:=TJ (aj (j:=1) (v:=U G (aV M).ak) K rfl);have k1:=TJ (aj (j:=1) (v:=E (A_ ⟨k.nb,0,B_⟩)) F.out.box rfl);have C:∀i os,Sj prog 144 #[E (A_ ⟨k.nb,0,B_⟩),U G (aV M).price] (Tg (Vl w2 i) os) λe S=>e=Y (.bool (nM M.st M.an (aV M).price))/\∃p:V_,S=Tg (Vl w2 p.d) p.os:=λi os=>Calls.regrown_of (aM2 k.nb M.st M.dy M.an M.la (aV M).price _ (F.out.bn.below (Uh w2 i os)))
 clear K o W I;have a:Hid (sF M=if(aV M).ak=0\/nM M.st M.an (aV M).price=G_ then qY M else if M.lo<M.mo then([],{ M with lo:=M.lo+1,en:=M.now+M.ti })else([],{ M with ph:=6 })):=rfl;generalize nM M.st M.an (aV M).price=cb at C a;generalize(aV M).price=pp at T C;generalize(aV M).ak=qq at V a
 by_cases B:qq=0
 ·have eq:=beq_iff_eq.2 B;have g:Hid (sF M=qY M):=by show _=_;rw[a.out,RF (RP B)]
  clear B a;refine TU k7 k7 ?_
  repeat(go_big_quiet_step (exact C _ _))
  refine Wq ?_;intro _ l;obtain⟨⟨i,f⟩,b⟩:=l;subst b;have q:=ah (F.out.below (Uh w2 i f));have c:=ah (aJ s.out (Uh w2 i f));generalize Tg (Vl w2 i) f=w3 at q c⊢;clear T V k1 C;go_wp2_with fail;refine(Lb eb k M w3 q.out Z.out A hm).mono ?_;rintro e w4 ⟨vf,rfl,D⟩;have x:Hid _:=D;clear D;go_wp2_with fail;go_ret;exact⟨vf,rfl,by rw[g.out];exact fE.from_ (aZ.stay H.out c.out) x.out⟩
 ·have eq:=RG.2 B;refine TU k7 k7 ?_
  repeat(go_big_quiet_step (exact C _ _))
  refine Wq ?_;intro _ l;obtain⟨⟨i,f⟩,b⟩:=l;subst b;have q:=ah (F.out.below (Uh w2 i f));have c:=ah (aJ s.out (Uh w2 i f));generalize Tg (Vl w2 i) f=w3 at q c⊢;clear T V k1 C F s;cases cb with
  |true=>
   have g:Hid (sF M=qY M):=by show _=_;rw[a.out,RF (RN rfl)]
   clear a B;go_wp2_with fail;refine(Lb eb k M w3 q.out Z.out A hm).mono ?_;rintro e w4 ⟨vf,rfl,D⟩;have x:Hid _:=D;clear D;go_wp2_with fail;go_ret;exact⟨vf,rfl,by rw[g.out];exact fE.from_ (aZ.stay H.out c.out) x.out⟩
  |false=>
   have g:Hid (sF M=if M.lo<M.mo then([],{ M with lo:=M.lo+1,en:=M.now+M.ti })else([],{ M with ph:=6 })):=by show _=_;rw[a.out,RD (by rintro(e|e);exact B e;cases e)]
   clear a B;go_upto_region 5 with fail;have N:=TJ (aj (j:=10) (v:=U G M.lo) q.out.box rfl);have c8:=TJ (aj (j:=8) (v:=U G M.mo) q.out.box rfl);refine TU k7 k7 ?_
   repeat(go_big_quiet_step (fail))
   refine Wq ?_;intro _ l;obtain⟨⟨J,r⟩,b⟩:=l;subst b;have n:=ah ((aZ.stay H.out c.out).oN (Uh w3 J r));generalize Tg (Vl w3 J) r=w4 at n⊢;clear N c8 q c;have O:w4.cell? ⟨eb,10,B_⟩=A_ (U G M.lo):=aj (j:=10) n.out.1.box rfl;have P:=aI (j:=10) n.out.1.box;have d5:w4.cell? ⟨eb,5,B_⟩=A_ (U G M.ph):=aj (j:=5) n.out.1.box rfl;have f5:=aI (j:=5) n.out.1.box
   by_cases hl:M.lo<M.mo
   ·have t:Hid (sF M=([],{ M with lo:=M.lo+1,en:=M.now+M.ti })):=by show _=_;rw[g.out,RF hl]
    go_upto_region 7 with fail;have y:=n.out.1.write (j:=10) (u:=U G (M.lo+1)) (M':={ M with lo:=M.lo+1 }) rfl rfl rfl rfl rfl ⟨rfl,rfl,rfl,rfl⟩;generalize w4.setCell ⟨eb,10,B_⟩ (U G (M.lo+1))=w5 at y⊢;have e6:w5.cell? ⟨eb,6,B_⟩=A_ (U G M.now):=aj (j:=6) y.1.box rfl;have e7:w5.cell? ⟨eb,7,B_⟩=A_ (U G M.ti):=aj (j:=7) y.1.box rfl;have e9:w5.cell? ⟨eb,9,B_⟩=A_ (U G M.en):=aj (j:=9) y.1.box rfl;have g9:=aI (j:=9) y.1.box;have X:=ah (n.out.trans y);clear y O P d5 f5;go_region
    all_goals go_wp2_with fail
    all_goals go_ret
    all_goals exact⟨_,rfl,fE.none_ t.out ((X.out.oN (RS _ _).drew).trans (X.out.1.drew.write (j:=9) (u:=U G (M.now+M.ti)) (M':={ M with lo:=M.lo+1,en:=M.now+M.ti }) rfl rfl rfl rfl rfl ⟨rfl,rfl,rfl,rfl⟩)) (Tk _ _)⟩
   ·have t:Hid (sF M=([],{ M with ph:=6 })):=by show _=_;rw[g.out,RD hl]
    go_wp2_with fail;go_ret;exact⟨_,rfl,fE.none_ t.out (n.out.trans (n.out.1.write (j:=5) (u:=U G 6) (M':={ M with ph:=6 }) rfl rfl rfl rfl rfl ⟨rfl,rfl,rfl,rfl⟩)) (Tk _ _)⟩
def Pd(a is:Int)(m:aG):Jy a is m=if is=7 then lC m else if m.ph=6 then([],m)else if is≠a then sK is m else if m.ph=4/\m.en<=m.now then sF m else([],m):=by
 unfold Jy
 by_cases g:is=7
 ·rw[RF g,RF g];rfl
 ·rw[RD g,RD g]
  by_cases f:m.ph=6
  ·rw[RF f,RF f]
  ·rw[RD f,RD f]
   by_cases c:is=a
   ·have a1:¬(a≠is/\is=3):=λe=>e.1 c.symm
    have i:¬(a≠is/\is=5):=λe=>e.1 c.symm
    have a3:¬(a≠is):=λe=>e c.symm
    have j:¬(is≠a):=λe=>e c
    rw[RD a1,RD i,RD a3,RD j];rfl
   ·have b:a≠is:=λe=>c e.symm
    rw[RF (show is≠a from c)];unfold sK
    by_cases h3:is=3
    ·rw[RF ⟨b,h3⟩,RF h3,h3];rfl
    ·rw[RD (λe=>h3 e.2),RD h3]
     by_cases d:is=5
     ·rw[RF ⟨b,d⟩,RF d]
     ·rw[RD (λe=>d e.2),RD d,RF b]
structure zm(M:aG):Prop where
 la:1<=M.la/\M.la<=1000000
 pk:M.P.length<=100
 wf:∀o∈M.P,(Tv .i64 o.id).wf=G_
 now:0<=M.now/\M.now<=1000000000
 ti:0<=M.ti/\M.ti<=1000000000
 lo:0<=M.lo/\M.lo<=1000000
 rs:0<M.rs.length/\M.rs.length<=60
def aSg(eb:Nat)(k:bC)(M:aG)(w:C_)(h:Eg w eb k M)(J:zm M)(h3:(bY M.rs (M.now+1)).1=3->(bY M.rs M.now).1≠3->M.ph≠6->kX M.ph=G_)(K:k.m<=700000):
  Sj prog 76 #[E (A_ ⟨eb,0,B_⟩)] w λe w'=>∃vf err,e=Y (.tuple #[vf,err])/\dQ err (yQ M)/\fE w w' eb k (fK M) vf:=by
 have D:w.cell? ⟨eb,5,B_⟩=A_ (U G M.ph):=aj (j:=5) h.box rfl;have H:=ah h;have o:=ah J;have s:=ah h3;have a0:=J.now;clear h J h3
 by_cases r:M.ph=7
 ·have d:Hid (yQ M=6/\fK M=([],M)):=⟨by unfold yQ;rw[RF r],by unfold fK;rw[RF r]⟩;have Z:=beq_iff_eq.2 r;clear r;go_enter func76,ntmps76;go_wp2_with fail;go_ret2;exact⟨_,_,rfl,dQ.no 6 d.out.1 d7,fE.none_ d.out.2 (aZ.refl H.out) (Tk _ _)⟩
 ·have d:Hid (yQ M=0/\fK M=Jy (bY M.rs M.now).1 (bY M.rs (M.now+1)).1 { M with now:=M.now+1 }):=⟨by unfold yQ;rw[RD r],by unfold fK;rw[RD r]⟩;have Z:=RG.2 r;clear r;go_enter func76,ntmps76;go_wp2_with fail;refine(KZ eb k M w H.out o.out.rs).mono ?_;rintro e w1 ⟨rfl,t⟩;have h1:=H.out.below t;have X:w1.cell? ⟨eb,6,B_⟩=A_ (U G M.now):=aj (j:=6) h1.box rfl;have f6:=aI (j:=6) h1.box;have h2:=h1.write (j:=6) (u:=U G (M.now+1)) (M':={ M with now:=M.now+1 }) rfl rfl rfl rfl rfl ⟨rfl,rfl,rfl,rfl⟩;have C:=ah ((aZ.stay H.out t).trans h2);clear t h1 h2 D;go_wp2_with fail;generalize w1.setCell ⟨eb,6,B_⟩ (U G (M.now+1))=w2 at C⊢;clear X f6;refine(KZ eb k { M with now:=M.now+1 } w2 C.out.1 o.out.rs).mono ?_;rintro e w3 ⟨rfl,A⟩;have a:=ah (C.out.oN A);have D:w3.cell? ⟨eb,5,B_⟩=A_ (U G M.ph):=aj (j:=5) a.out.1.box rfl;clear A C;rw[show(bY ({ M with now:=M.now+1 }:aG).rs ({ M with now:=M.now+1 }:aG).now).1=(bY M.rs (M.now+1)).1 from rfl];generalize(bY M.rs (M.now+1)).1=is at d s;generalize(bY M.rs M.now).1=was at d s;rw[Pd]at d
  by_cases c:is=7
  ·have b:Hid (fK M=lC { M with now:=M.now+1 }):=by show _=_;rw[d.out.2,RF c]
   have V:=beq_iff_eq.2 c;clear c s;go_wp2_with fail;refine(aRv eb k { M with now:=M.now+1 } w3 a.out.1 o.out.la K).mono ?_;rintro e w4 ⟨vf,k4,rfl,O,N,hk⟩;have i:Hid (fE w3 w4 eb k (lC { M with now:=M.now+1 }) vf):=⟨k4,O,N,hk⟩;clear O N hk;go_wp2_with fail;go_ret2;exact⟨_,_,rfl,dQ.yes d.out.1,by rw[b.out];exact fE.from_ a.out i.out⟩
  ·have V:=RG.2 c
   by_cases p:M.ph=6
   ·have b:Hid (fK M=([],{ M with now:=M.now+1 })):=by show _=_;rw[d.out.2,RD c,RF p]
    have T:=beq_iff_eq.2 p;clear c p s;go_wp2_with fail;go_ret2;exact⟨_,_,rfl,dQ.yes d.out.1,fE.none_ b.out a.out (Tk _ _)⟩
   ·have T:=RG.2 p
    by_cases x:is=was
    ·have b:Hid (fK M=if M.ph=4/\M.en<=M.now+1 then sF { M with now:=M.now+1 }else([],{ M with now:=M.now+1 })):=by show _=_;rw[d.out.2,RD c,RD p,RD (λe=>e x)]
     have W:(is != was)=E_:=by simp[x]
     clear c p x s;go_upto_region 12 with fail;have P:=TJ (aj (j:=5) (v:=U G M.ph) a.out.1.box rfl);have Q:=TJ (aj (j:=6) (v:=U G (M.now+1)) a.out.1.box rfl);have R:=TJ (aj (j:=9) (v:=U G M.en) a.out.1.box rfl)
     by_cases q:M.ph=4
     ·have S:=beq_iff_eq.2 q;have I:Hid (kX M.ph=G_):=by show _=_;rw[q];rfl
      refine TU k7 k7 ?_
      repeat(go_big_quiet_step (fail))
      refine Wq ?_;intro _ y;obtain⟨⟨z,n⟩,l⟩:=y;subst l;have f:=ah (a.out.oN (Uh w3 z n));generalize Tg (Vl w3 z) n=w4 at f⊢;clear P Q R D a
      by_cases L:M.en<=M.now+1
      ·have g:Hid (fK M=sF { M with now:=M.now+1 }):=by show _=_;rw[b.out,RF ⟨q,L⟩]
       clear q b;go_wp2_with fail;refine(aSa eb k { M with now:=M.now+1 } w4 f.out.1 I.out o.out.la (by show 0<=M.now+1/\M.now+1<=1000000000000;omega) (by show 0<=M.ti/\M.ti<=1000000000000;have:=o.out.ti;omega) o.out.lo K).mono ?_;rintro e w5 ⟨vf,rfl,B⟩;have i:Hid _:=B;clear B;go_wp2_with fail;go_ret2;exact⟨_,_,rfl,dQ.yes d.out.1,by rw[g.out];exact fE.from_ f.out i.out⟩
      ·have g:Hid (fK M=([],{ M with now:=M.now+1 })):=by show _=_;rw[b.out,RD (λe=>L e.2)]
       clear q b;go_wp2_with fail;go_ret2;exact⟨_,_,rfl,dQ.yes d.out.1,fE.none_ g.out f.out (Tk _ _)⟩
     ·have S:=RG.2 q;have g:Hid (fK M=([],{ M with now:=M.now+1 })):=by show _=_;rw[b.out,RD (λe=>q e.1)]
      clear q b;refine TU k7 k7 ?_
      repeat(go_big_quiet_step (fail))
      refine Wq ?_;intro _ y;obtain⟨⟨z,n⟩,l⟩:=y;subst l;have f:=ah (a.out.oN (Uh w3 z n));generalize Tg (Vl w3 z) n=w4 at f⊢;clear P Q R D a;go_wp2_with fail;go_ret2;exact⟨_,_,rfl,dQ.yes d.out.1,fE.none_ g.out f.out (Tk _ _)⟩
    ·have b:Hid (fK M=sK is { M with now:=M.now+1 }):=by show _=_;rw[d.out.2,RD c,RD p,RF x]
     have F:Hid (is=3->kX M.ph=G_):=λe=>s.out e (λe2=>x (e.trans e2.symm)) p
     have W:(is != was)=G_:=by simpa using x
     clear c p x s;go_wp2_with fail;refine(aSj eb k { M with now:=M.now+1 } is w3 a.out.1 F.out o.out.la o.out.pk o.out.wf K).mono ?_;rintro e w4 ⟨vf,rfl,B⟩;have i:Hid _:=B;clear B;go_wp2_with fail;go_ret2;exact⟨_,_,rfl,dQ.yes d.out.1,by rw[b.out];exact fE.from_ a.out i.out⟩
def aR4(eb:Nat)(k:bC)(M:aG)(w:C_)(h:Eg w eb k M)(n:zm M)(s:k.m<=700000):
  Sj prog 81 #[E (A_ ⟨eb,0,B_⟩)] w λe w'=>∃err k',e=Y err/\dQ err (yJ M)/\aZ w w' eb k k' (nV M)/\k'.m<=k.m+302:=by
 have r:w.cell? ⟨eb,5,B_⟩=A_ (U G M.ph):=aj (j:=5) h.box rfl;have H:=ah h;have g:=ah n;clear h n
 by_cases d:M.ph=6
 ·have t:(M.ph != 6)=E_:=by simp[d]
  have b:Hid (yJ M=0/\nV M=if(bY M.rs M.now).1=3 then sM M else if(bY M.rs M.now).1=5 then xX M else { M with ph:=(bY M.rs M.now).1 }):=⟨by unfold yJ;rw[RF d],by unfold nV;rw[RF d]⟩;clear d;go_enter func81,ntmps81;go_wp2_with fail;refine(KZ eb k M w H.out g.out.rs).mono ?_;rintro e w1 ⟨rfl,i⟩;have c:Hid (aZ w w1 eb k k M):=aZ.stay H.out i;clear i r;generalize(bY M.rs M.now).1=p at b
  by_cases h3:p=3
  ·have a:Hid (nV M=sM M):=by show _=_;rw[b.out.2,RF h3]
   have o:=beq_iff_eq.2 h3;clear h3;go_wp2_with fail;refine(Gb eb k M w1 c.out.1 (by have:=g.out.now;omega) (by have:=g.out.ti;omega)).mono ?_;rintro e w2 ⟨rfl,h2⟩;have l:=ah (c.out.trans h2);clear h2;go_wp2_with fail;go_ret;exact⟨_,k,rfl,dQ.yes b.out.1,by rw[a.out];exact l.out,Tk _ _⟩
  ·have o:=RG.2 h3
   by_cases f:p=5
   ·have a:Hid (nV M=xX M):=by show _=_;rw[b.out.2,RD h3,RF f]
    have q:=beq_iff_eq.2 f;clear h3 f;go_wp2_with fail;refine(aBe eb k M w1 c.out.1 g.out.pk g.out.wf s).mono ?_;rintro e w2 ⟨k2,rfl,h2,hk⟩;have l:=ah (c.out.trans h2);clear h2;go_wp2_with fail;go_ret;exact⟨_,k2,rfl,dQ.yes b.out.1,by rw[a.out];exact l.out,RV hk o7⟩
   ·have a:Hid (nV M={ M with ph:=p }):=by show _=_;rw[b.out.2,RD h3,RD f]
    have q:=RG.2 f;have v:w1.cell? ⟨eb,5,B_⟩=A_ (U G M.ph):=aj (j:=5) c.out.1.box rfl;have x:=aI (j:=5) c.out.1.box;clear h3 f;go_wp2_with fail;go_ret;exact⟨_,k,rfl,dQ.yes b.out.1,by rw[a.out];exact c.out.trans (c.out.1.write (j:=5) (u:=U G p) (M':={ M with ph:=p }) rfl rfl rfl rfl rfl ⟨rfl,rfl,rfl,rfl⟩),Tk _ _⟩
 ·have t:(M.ph != 6)=G_:=by simpa using d
  have b:Hid (yJ M=6/\nV M=M):=⟨by unfold yJ;rw[RD d],by unfold nV;rw[RD d]⟩;clear d;go_enter func81,ntmps81;go_wp2_with fail;go_ret;exact⟨_,k,rfl,dQ.no 6 b.out.1 d7,by rw[b.out.2];exact aZ.refl H.out,Tk _ _⟩
def jM(M:aG)(o:Ord):Int:=if wT o=E_ then 1 else if iX o.price o.ak=E_ then 2 else if uE M.ph o.kind=E_ then 6 else if decide (o.id∈M.I)=G_ then 9 else if 100<=M.L.length+M.P.length then 12 else 0
def bDv(p q:Int):iX p q=Ez p q:=rfl
def Nz(M:aG)(o:Ord):pK M o=jM M (dG o):=by
 have e1:(dG o).kind=o.kind:=by unfold dG;split<;>rfl
 have e2:(dG o).ak=o.ak:=by unfold dG;split<;>rfl
 unfold pK jM wT;rw[aXi,DU,e1,e2,bDv]
 by_cases h1:(decide (1<=o.side)&& decide (o.side<=2))=E_
 ·rw[RF (RP h1),h1];rfl
 ·have a:(decide (1<=o.side)&& decide (o.side<=2))=G_:=by simpa using h1
  by_cases h2:(decide (1<=o.kind)&& decide (o.kind<=4))=E_
  ·rw[RF (RN (RP h2)),a,h2];rfl
  ·have b:(decide (1<=o.kind)&& decide (o.kind<=4))=G_:=by simpa using h2
   by_cases h3:o.id<1
   ·rw[RF (RN (RN h3)),a,b,RH o7];rfl
   ·rw[RD (by rintro(h|h|h)<;>contradiction),a,b,RI o7];simp only[decide_eq_true_eq];rfl
def aR9(eb:Nat)(k:bC)(M:aG)(o:Ord)(w:C_)(h:Eg w eb k M)(hw:(Tv .i64 o.id).wf=G_)(hP:M.P.length<=1000):
  Sj prog 134 #[E (A_ ⟨eb,0,B_⟩),o.agg] w λe w'=>e=Y (U G (jM M o))/\Below w.heap.size w w':=by
 have hL:=h.wK;have u:((k.b.S 0).length+(k.b.S 1).length:Nat)=M.L.length:=h.bU.len.symm;have N:=ah u;have HW:=ah hw;have H:=ah h;obtain⟨pa,pc,W,_,_⟩:=lJ h.pk;have a0:=ah W;clear h hw u W;unfold Ord.agg;go_enter func134,ntmps134;go_upto_region 1 with fail;have X:=RU w (R #[U G o.id,U G o.side,U G o.kind,U G o.price,U G o.ak] 155);have n:=aM w (R #[U G o.id,U G o.side,U G o.kind,U G o.price,U G o.ak] 155);generalize w.alloc (R #[U G o.id,U G o.side,U G o.kind,U G o.price,U G o.ak] 155)=w1 at X n⊢;have h1:=H.out.below n;have c4:w1.cell? ⟨eb,4,B_⟩=A_ (.map (A_ k.tk)):=aj (j:=4) h1.box rfl;have x0:w1.cell? ⟨w.heap.size,0,B_⟩=A_ (U G o.id):=aj (j:=0) X rfl;have a1:(w1.alloc (R #[] 32)).cell? ⟨eb,4,B_⟩=A_ (.map (A_ k.tk)):=aj (j:=4) (h1.below (aM _ _)).box rfl;have a2:(w1.alloc (R #[] 32)).cell? ⟨w.heap.size,0,B_⟩=A_ (U G o.id):=aj (j:=0) (aL X (aM _ _) au) rfl;have la:=(h1.below (RS _ _).drew).tkn.look HW.out;have lb:∀obj,(Instr.lookup 149 (.map (A_ k.tk)) (U G o.id) G_).run prog (w1.drew.alloc obj)=.ok (.tuple #[.agg #[],.bool (decide (o.id∈M.I))]) (w1.drew.alloc obj):=λobj=>((h1.below (RS _ _).drew).below (aM _ obj)).tkn.look HW.out
 have lc:∀obj,(Instr.lookup 149 (.map (A_ k.tk)) (U G o.id) G_).run prog (w1.alloc obj).drew=.ok (.tuple #[.agg #[],.bool (decide (o.id∈M.I))]) (w1.alloc obj).drew:=λobj=>((h1.below (aM _ obj)).below (RS _ _).drew).tkn.look HW.out
 have HX:Hid _:=X;have C:=ah n;have H1:=ah h1;clear X n h1;generalize hd:decide (o.id∈M.I)=d at la lb lc;have HD:=ah hd;clear hd;go_region;have h2:=(H1.out.below (aM _ (R #[] 32))).drew;have a:=aL (aL HX.out (aM _ (R #[] 32)) au) ((RS (w1.alloc (R #[] 32)).heap.size _).drew) au;have D:Hid (Below w.heap.size w (w1.alloc (R #[] 32)).drew):=(aJ C.out (aM _ _)).drew;generalize(w1.alloc (R #[] 32)).drew=w2 at h2 a D⊢;have y0:w2.cell? ⟨w.heap.size,0,B_⟩=A_ (U G o.id):=aj (j:=0) a rfl;have y1:w2.cell? ⟨w.heap.size,1,B_⟩=A_ (U G o.side):=aj (j:=1) a rfl;have y2:w2.cell? ⟨w.heap.size,2,B_⟩=A_ (U G o.kind):=aj (j:=2) a rfl;have y3:w2.cell? ⟨w.heap.size,3,B_⟩=A_ (U G o.price):=aj (j:=3) a rfl;have y4:w2.cell? ⟨w.heap.size,4,B_⟩=A_ (U G o.ak):=aj (j:=4) a rfl;have H2:=ah h2;have Q:Hid _:=a;clear h2 a c4 x0 a1 a2 la lb lc HX C H1;go_wp2_with fail;refine(aRx o w2).mono ?_;rintro e w3 ⟨rfl,q⟩;have H3:=ah (H2.out.below q);have s:=aL Q.out q au;have F:=ah (aJ D.out q);have z3:w3.cell? ⟨w.heap.size,3,B_⟩=A_ (U G o.price):=aj (j:=3) s rfl;have z4:w3.cell? ⟨w.heap.size,4,B_⟩=A_ (U G o.ak):=aj (j:=4) s rfl;have T:Hid _:=s;clear q s y0 y1 y2 y3 y4 Q;cases hk:wT o with
 |false=>
  have i:Hid (jM M o=1):=by show _=_;unfold jM;rw[RF hk]
  clear hk;go_wp2_with fail;go_ret;exact⟨by rw[i.out];rfl,F.out⟩
 |true=>
  have HK:Hid (¬wT o=E_):=by show¬_;rw[hk];decide
  clear hk;go_wp2_with fail;refine(Fp o.price o.ak w3).mono ?_;rintro e w4 ⟨rfl,r⟩;have H4:=ah (H3.out.below r);have V:Hid _:=aL T.out r au;have K:=ah (aJ F.out r);clear r z3 z4 T;cases hr:iX o.price o.ak with
  |false=>
   have i:Hid (jM M o=2):=by show _=_;unfold jM;rw[RD HK.out,RF hr]
   clear hr;go_wp2_with fail;go_ret;exact⟨by rw[i.out];rfl,K.out⟩
  |true=>
   have z:Hid (¬iX o.price o.ak=E_):=by show¬_;rw[hr];decide
   clear hr;go_upto_region 6 with fail;have k5:=TJ (aj (j:=5) (v:=U G M.ph) H4.out.box rfl);have k2:=TJ (aj (j:=2) (v:=U G o.kind) V.out rfl);have cT:∀c os,Sj prog 186 #[U G M.ph,U G o.kind] (Tg (Vl w4 c) os) λe B=>e=Y (.bool (uE M.ph o.kind))/\∃p:V_,B=Tg (Vl w4 p.d) p.os:=λc os=>(bHl M.ph o.kind _).mono (λ_ _ ⟨he,hw⟩=>⟨he,⟨c,os⟩,hw⟩)
   refine TU k7 k7 ?_
   repeat(go_big_quiet_step (exact cT _ _))
   refine Wq ?_;intro _ A;obtain⟨⟨c,f⟩,g⟩:=A;subst g;have H5:=ah (H4.out.below (Uh w4 c f));have l:=ah (aJ K.out (Uh w4 c f));generalize Tg (Vl w4 c) f=w5 at H5 l⊢;clear k5 k2 cT V H4;cases ht:uE M.ph o.kind with
   |false=>
    have i:Hid (jM M o=6):=by show _=_;unfold jM;rw[RD HK.out,RD z.out,RF ht]
    clear ht;go_wp2_with fail;go_ret;exact⟨by rw[i.out];rfl,l.out⟩
   |true=>
    have O:Hid (¬uE M.ph o.kind=E_):=by show¬_;rw[ht];decide
    clear ht;cases d with
    |true=>
     have i:Hid (jM M o=9):=by show _=_;unfold jM;rw[RD HK.out,RD z.out,RD O.out,RF HD.out]
     go_wp2_with fail;go_ret;exact⟨by rw[i.out];rfl,l.out⟩
    |false=>
     have i:Hid (jM M o=if 100<=M.L.length+M.P.length then 12 else 0):=by show _=_;unfold jM;rw[RD HK.out,RD z.out,RD O.out,RD (by rw[HD.out];decide)]
     go_upto_region 10 with fail;have k2:=TJ (aj (j:=2) (v:=E (A_ ⟨k.bb,0,B_⟩)) H5.out.box rfl);have Z:w5.cell? ⟨eb,3,B_⟩=A_ (J pa M.P.length pc):=(aj (j:=3) (v:=k.vp) H5.out.box rfl).trans (by rw[a0.out]);have k3:=TJ Z;clear Z
     have cM:∀c os,Sj prog 187 #[E (A_ ⟨k.bb,0,B_⟩)] (Tg (Vl w5 c) os) λe B=>e=Y (U G (M.L.length:Int))/\∃p:V_,B=Tg (Vl w5 p.d) p.os:=λc os=>by
      have:=Calls.regrown_of (bBv k.bb k.m k.b (Tg (Vl w5 c) os) (H5.out.bk.below (Uh w5 c os) au));rw[N.out]at this;exact this
     refine TU k7 k7 ?_
     repeat(go_big_quiet_step (exact cM _ _))
     refine Wq ?_;intro _ A;obtain⟨⟨c,f⟩,g⟩:=A;subst g;have x:=ah (aJ l.out (Uh w5 c f));generalize Tg (Vl w5 c) f=w6 at x⊢;clear k2 k3 cM
     by_cases t:100<=M.L.length+M.P.length
     ·have y:Hid (jM M o=12):=by show _=_;rw[i.out,RF t]
      go_wp2_with fail;go_ret;exact⟨by rw[y.out];rfl,x.out⟩
     ·have y:Hid (jM M o=0):=by show _=_;rw[i.out,RD t]
      go_wp2_with fail;go_ret;exact⟨by rw[y.out];rfl,x.out⟩
structure Qf(M:aG)(p:Ord):Prop where
 side:p.side=1\/p.side=2
 kind:1<=p.kind/\p.kind<=4
 id:1<=p.id
 right:1<=p.price/\p.price<=1000000/\1<=p.ak/\p.ak<=1000000
 takes:uE M.ph p.kind=G_
 new:p.id ∉ M.I
 room:M.L.length+M.P.length<100
def aHd(h:jM M p=0):Qf M p:=by
 unfold jM at h
 by_cases h1:wT p=E_
 ·rw[RF h1]at h;cases h
 rw[RD h1]at h
 by_cases h2:iX p.price p.ak=E_
 ·rw[RF h2]at h;cases h
 rw[RD h2]at h
 by_cases h3:uE M.ph p.kind=E_
 ·rw[RF h3]at h;cases h
 rw[RD h3]at h
 by_cases a:decide (p.id∈M.I)=G_
 ·rw[RF a]at h;cases h
 rw[RD a]at h
 by_cases d:100<=M.L.length+M.P.length
 ·rw[RF d]at h;cases h
 have k1:wT p=G_:=by simpa using h1
 have k2:iX p.price p.ak=G_:=by simpa using h2
 unfold wT at k1;simp only[SV,decide_eq_true_eq]at k1;unfold iX at k2;rw[SV]at k2;have b:=tN k2.1;have c:=tN k2.2;exact⟨o7,o7,o7,⟨b.1,b.2,c.1,c.2⟩,by simpa using h3,by simpa using a,o7⟩
def aSf{e:aG}(h:aZ w w1 eb k k1 e)(h1:∃d,w2.ownsRow w1.heap.size 164 4 vf r.1.length (fV r.1)/\aZ w1 w2 eb k1 d r.2/\d.m<=k1.m+n)(hn:k1.m+n<=k.m+302):fE w w2 eb k r vf:=by
 obtain⟨d,a,b,c⟩:=h1;exact⟨d,qB a h.2.1.size,h.trans b,RV c hn⟩
def ME{b:Nat}(h:iM wc b p):aF wc b 0 (U G p.id)/\aF wc b 1 (U G p.side)/\aF wc b 2 (U G p.kind)/\aF wc b 3 (U G p.price)/\aF wc b 4 (U G p.ak):=⟨aj (j:=0) h rfl,aj (j:=1) h rfl,aj (j:=2) h rfl,aj (j:=3) h rfl,aj (j:=4) h rfl⟩
def aR5(eb:Nat)(k:bC)(M:aG)(o:Ord)(w:C_)(h:Eg w eb k M)(hN:zm M)(hw:(Tv .i64 o.id).wf=G_)(hm:k.m<=600000):
  Sj prog 99 #[E (A_ ⟨eb,0,B_⟩),o.agg] w λe w'=>∃vf err,e=Y (.tuple #[vf,err])/\dQ err (pK M o)/\fE w w' eb k (jL M o) vf:=by
 have H:=ah h;have HN:=ah hN;have f:Hid (pK M o=jM M (dG o)/\jL M o=if jM M (dG o)=0 then uD { M with I:=M.I++[(dG o).id] } (dG o)else([],M)):=⟨Nz M o,by unfold jL;rw[Nz,DU]⟩;have z:Hid ((Tv .i64 (dG o).id).wf=G_):=by show _=_;rw[DU];exact hw
 have c3:=hN.pk;clear h hN hw;unfold Ord.agg;go_enter func99,ntmps99;go_upto_region 1 with fail;have u:=RU w (R #[U G o.id,U G o.side,U G o.kind,U G o.price,U G o.ak] 155);have Z:=aM w (R #[U G o.id,U G o.side,U G o.kind,U G o.price,U G o.ak] 155);generalize w.alloc (R #[U G o.id,U G o.side,U G o.kind,U G o.price,U G o.ak] 155)=w1 at u Z⊢;have y2:aF w1 w.heap.size 2 (U G o.kind):=aj (j:=2) u rfl;have y3:aF w1 w.heap.size 3 (U G o.price):=aj (j:=3) u rfl;have g3:=aI (j:=3) u;have HX:Hid _:=u;have HB:=ah Z;clear u Z;go_upto_if 9 with fail;go_cut [9] (λ_ wc=>iM wc w.heap.size (dG o)/\bW w wc)
 case first=>
  by_cases hk:o.kind=2
  ·have HE:Hid (dG o={ o with price:=1 }):=RF hk;have bk:=beq_iff_eq.2 hk;clear hk;go_wp2_with fail;go_meet;exact⟨by rw[HE.out];exact bg (j:=3) (U G 1) HX,HB.setCell (p:=⟨w.heap.size,3,B_⟩) au _⟩
  ·have HE:Hid (dG o=o):=RD hk;have bk:=RG.2 hk;clear hk;go_wp2_with fail;go_meet;exact⟨by rw[HE.out];exact HX,HB⟩
 case rest=>
  obtain⟨u,Z⟩:=hcut;clear HX HB y2 y3 g3;generalize dG o=p at u f z;obtain⟨x0,x1,x2,x3,x4⟩:=ME u;have HX:=ah u;have HB:=ah Z;have HC:=ah (H.below Z);clear u Z;go_wp2_with fail;refine(aR9 eb k M p wc HC z o7).mono ?_;rintro e w2 ⟨rfl,O⟩;have V:=ah (aJ HB O);have T:=ah (HC.below O);have N:Hid (iM w2 w.heap.size p):=aL HX O au;clear O x0 x1 x2 x3 x4 HB HX HC
  by_cases h0:jM M p=0
  ·have HR:=ah (aHd h0);have d:Hid (pK M o=0/\jL M o=uD { M with I:=M.I++[p.id] } p):=⟨by rw[f.out.1,h0],by rw[f.out.2,RF h0]⟩;rw[h0];clear h0 f;go_upto_region 6 with fail;obtain⟨w3,b2,a9,a0⟩:=T.drew.tkn.put z (by have:=T.few;omega);have h3:=T.drew.bAu a9 a0 o7;have Q:eb≠k.tk:=T.Bq;have D:=T.tkn.ne N;have a1:Hid (∀w',Out (λj=>j=k.tk) w2 w'->aF w' eb 4 (.map (A_ k.tk))/\aF w' w.heap.size 0 (U G p.id)/\Out (λj=>j=k.tk) w2 w'):=λw' ho=>⟨aj (j:=4) (aH T.box ho Q) rfl,aj (j:=0) (aH N ho D) rfl,ho⟩
   have W:Hid (Out (λj=>j=k.tk) w2 w3):=iU (fI (Tz _ _)) a0;have a2:=ah (aH N W D);have y:Hid (aZ w w3 eb k { k with m:=k.m+1,n:=k.n+1 } { M with I:=M.I++[p.id] }):=((aZ.stay H V).oN (RS _ _).drew).trans h3;clear a9 a0 h3 Q D
   go_region_held3 (λw'=>aF w' eb 4 (.map (A_ k.tk))/\aF w' w.heap.size 0 (U G p.id)/\Out (λj=>j=k.tk) w2 w')
    ((refine a1 _ ?_;first|exact W|exact fI (Tz _ _)|exact Tz _ _)) (fail)
   obtain⟨y0,y1,y2,y3,y4⟩:=ME a2;have c5:aF w3 eb 5 (U G M.ph):=aj (j:=5) y.out.1.box rfl;clear b2 a1 W T N V
   by_cases a:p.kind=4/\M.ph≠5
   ·have HT:Hid (uD { M with I:=M.I++[p.id] } p=([],{ M with I:=M.I++[p.id],P:=M.P++[p] })):=by show _=_;unfold uD;rw[RF a]
    have b4:=beq_iff_eq.2 a.1;have b5:(M.ph != 5)=G_:=by simpa using a.2
    clear a;go_upto_region 9 with fail;obtain⟨i0,b8,c0,c1,c2⟩:=Vw GQ;have BA:k.vp.ownBlock≠A_ w.heap.size:=λe=>by have:=(H.pk.lt _ e).2;omega
    have J:Hid (∀w',Out (λj=>k.vp.ownBlock=A_ j) w3 w'->aF w' eb 3 k.vp/\aF w' w.heap.size 0 (U G p.id)/\aF w' w.heap.size 1 (U G p.side)/\aF w' w.heap.size 2 (U G p.kind)/\aF w' w.heap.size 3 (U G p.price)/\aF w' w.heap.size 4 (U G p.ak)/\Out (λj=>k.vp.ownBlock=A_ j) w3 w'):=λw' ho=>by
     obtain⟨z0,z1,z2,z3,z4⟩:=ME (aH a2 ho BA);exact⟨aj (j:=3) (v:=k.vp) (aH y.out.1.box ho y.out.1.yj) rfl,z0,z1,z2,z3,z4,ho⟩
    have a8:M.P.length+1<=maxLen:=by unfold maxLen;omega
    clear BA y0 y1 y2 y3 y4 c5;refine JJ (λw'=>aF w' eb 3 k.vp/\aF w' w.heap.size 0 (U G p.id)/\aF w' w.heap.size 1 (U G p.side)/\aF w' w.heap.size 2 (U G p.kind)/\aF w' w.heap.size 3 (U G p.price)/\aF w' w.heap.size 4 (U G p.ak)/\Out (λj=>k.vp.ownBlock=A_ j) w3 w') (λi=>i == 10) k7 (J _ (fI (Tz _ _))) (λhHeld=>?_);refine dP 0 a7 ?_;refine dP 1 a7 ?_;refine dP 2 a7 ?_;refine dP 3 a7 ?_;refine dP 4 a7 ?_;refine dP 5 a7 ?_;refine mO (rs:=[6]) k7 s7 ?_;refine dK.cons rfl (λK X=>?_) dK.nil;go_simp;refine X.out _ _ (λ_=>J _ (ug (fI (Tz _ _)) _)) (λhHeld=>?_);replace hHeld:=hHeld rfl;clear X K;refine mO (rs:=[7]) k7 s7 ?_;refine dK.cons rfl (λK X=>?_) dK.nil;refine bGa _ rfl (.tmp 44) (.tmp 46) 127 rfl 0 155 i0 _ 5 40 underlying127 b8 c0 c1 c2 r7 o7 k.vp M.P.length (oV M.P) r7 (jw (y.out.1.drew).pk (aM _ _) au) (A_ ⟨w3.heap.size,0,B_⟩) 1 1 [U G p.id,U G p.side,U G p.kind,U G p.price,U G p.ak] r7 r7 (RN ⟨_,rfl,World.news_of_block (cs:=#[U G p.id,U G p.side,U G p.kind,U G p.price,U G p.ak]) (t:=155) (fr:=(0,0)) (RU w3.drew _)⟩) (by simp[Vk]) a8 o7 (Sv _) ?_;intro v5 w5 h5 q a6;obtain⟨a5,n5,b9,_,_⟩:=lJ h5;subst b9;have F:Hid (Out (λj=>k.vp.ownBlock=A_ j) w3 w5):=iU (ug (fI (Tz _ _)) _) (Out.uf q (λ_ e=>e));have S:=y.out.1.Nk (P':=M.P++[p]) F (by rw[Sl,BS];exact h5) (λj hj=>(a6 j hj).imp id (λe=>RV (Uk _) (by simpa using e)));have d3:aF w5 eb 3 k.vp:=(J _ F).1;have g3:=aI (j:=3) (aH y.out.1.box F y.out.1.yj);have H5:=ah (y.trans S);clear h5 q a6 S;refine X.out _ _ (λ_=>J _ F) (λhHeld=>?_);replace hHeld:=hHeld rfl;clear X K;refine dP 8 a7 ?_;refine dP 9 a7 ?_;refine mO (rs:=[10]) k7 s7 ?_;refine dK.cons rfl (λK X=>?_) dK.nil;go_simp;refine X.out _ _ (λh=>by cases h) (λ_=>?_);refine EX k7 ?_ _;go_wp2_with fail;go_ret2;exact⟨_,_,rfl,dQ.yes d.out.1,fE.none_ (d.out.2.trans HT) H5 (by show k.m+1<=k.m+302;omega)⟩
   ·by_cases h3:M.ph=3
    ·have HT:Hid (uD { M with I:=M.I++[p.id] } p=nC { M with I:=M.I++[p.id] } p):=by show _=_;unfold uD;rw[RD a,RD (λe=>e h3)]
     have b4:(p.kind == 4)=E_:=RG.2 (λe=>a ⟨e,by rw[h3];decide⟩);have b3:=beq_iff_eq.2 h3;clear a h3;go_wp2_with fail;refine(aSi eb { k with m:=k.m+1,n:=k.n+1 } { M with I:=M.I++[p.id] } p w3 y.out.1 (by show k.m+1<=700000;omega) HR.side (by have:=HR.right;omega) z (by have:=HN.now;show 0<=M.now/\M.now<=1000000000000;omega) (by have:=HN.ti;show 0<=M.ti/\M.ti<=1000000000000;omega)).mono ?_;rintro e w4 ⟨vf,k4,rfl,b1,a3,a4⟩;have b7:Hid (fE w w4 eb k (nC { M with I:=M.I++[p.id] } p) vf):=aSf y ⟨k4,b1,a3,a4⟩ (by show k.m+1+101<=k.m+302;omega);clear b1 a3 a4;go_wp2_with fail;go_ret2;exact⟨_,_,rfl,dQ.yes d.out.1,by rw[d.out.2,HT.out];exact b7⟩
    ·have HT:Hid (uD { M with I:=M.I++[p.id] } p=([],{ M with I:=M.I++[p.id],L:=fF p M.L })):=by show _=_;unfold uD;rw[RD a,RF h3]
     have b3:=RG.2 h3
     by_cases A:p.kind=4
     ·have b4:=beq_iff_eq.2 A
      have b5:(M.ph != 5)=E_:=by
       have:M.ph=5:=Classical.byContradiction (λe=>a ⟨A,e⟩);simp[this]
      clear a h3 A;have c:=RU w3 (R #[U G p.id,U G p.side,U G p.kind,U G p.price,U G p.ak] 155);have g:=aM w3 (R #[U G p.id,U G p.side,U G p.kind,U G p.price,U G p.ak] 155);go_wp2_with fail;generalize w3.alloc (R #[U G p.id,U G p.side,U G p.kind,U G p.price,U G p.ak] 155)=w4 at c g⊢;have A:=y.out.1.below g
      have l:∀b off,A_ (⟨w3.heap.size,0,B_⟩:J_)=A_ ⟨b,off,B_⟩->¬k.b.foot k.bb b:=λb off e=>by
       injection e with e;injection e with e _ _;rw[<-e];exact A.bk.kL c d7 d7 d7 d7 d7
      have B:jV w4 (A_ ⟨w3.heap.size,0,B_⟩) [p]:=λi hi=>by
       have e:i=0:=by simp at hi;omega
       subst e;exact⟨w3.heap.size,0,rfl,aj (j:=0) c rfl,aj (j:=1) c rfl,aj (j:=2) c rfl,aj (j:=3) c rfl,aj (j:=4) c rfl⟩
      have s:=ah (y.oN g);clear c g A;refine(Gc eb { k with m:=k.m+1,n:=k.n+1 } { M with I:=M.I++[p.id] } (A_ ⟨w3.heap.size,0,B_⟩) 1 [p] w4 s.out.1 B (λx u=>by rw[TT.1 u];exact z) l (by show k.m+1+1<=900000;omega)).mono ?_;rintro e w5 ⟨rfl,b5,C,q⟩;have H5:Hid (aZ w w5 eb k { k with m:=k.m+1+1,n:=k.n+1,b:=b5 } { M with I:=M.I++[p.id],L:=fF p M.L }):=s.trans (s.out.1.wW q C (Tk _ _));clear C q B l;go_wp2_with fail;go_ret2;exact⟨_,_,rfl,dQ.yes d.out.1,fE.none_ (d.out.2.trans HT) H5 (by show k.m+1+1<=k.m+302;omega)⟩
     ·have b4:=RG.2 A;clear a h3 A;have c:=RU w3 (R #[U G p.id,U G p.side,U G p.kind,U G p.price,U G p.ak] 155);have g:=aM w3 (R #[U G p.id,U G p.side,U G p.kind,U G p.price,U G p.ak] 155);go_wp2_with fail;generalize w3.alloc (R #[U G p.id,U G p.side,U G p.kind,U G p.price,U G p.ak] 155)=w4 at c g⊢;have A:=y.out.1.below g
      have l:∀b off,A_ (⟨w3.heap.size,0,B_⟩:J_)=A_ ⟨b,off,B_⟩->¬k.b.foot k.bb b:=λb off e=>by
       injection e with e;injection e with e _ _;rw[<-e];exact A.bk.kL c d7 d7 d7 d7 d7
      have B:jV w4 (A_ ⟨w3.heap.size,0,B_⟩) [p]:=λi hi=>by
       have e:i=0:=by simp at hi;omega
       subst e;exact⟨w3.heap.size,0,rfl,aj (j:=0) c rfl,aj (j:=1) c rfl,aj (j:=2) c rfl,aj (j:=3) c rfl,aj (j:=4) c rfl⟩
      have s:=ah (y.oN g);clear c g A;refine(Gc eb { k with m:=k.m+1,n:=k.n+1 } { M with I:=M.I++[p.id] } (A_ ⟨w3.heap.size,0,B_⟩) 1 [p] w4 s.out.1 B (λx u=>by rw[TT.1 u];exact z) l (by show k.m+1+1<=900000;omega)).mono ?_;rintro e w5 ⟨rfl,b5,C,q⟩;have H5:Hid (aZ w w5 eb k { k with m:=k.m+1+1,n:=k.n+1,b:=b5 } { M with I:=M.I++[p.id],L:=fF p M.L }):=s.trans (s.out.1.wW q C (Tk _ _));clear C q B l;go_wp2_with fail;go_ret2;exact⟨_,_,rfl,dQ.yes d.out.1,fE.none_ (d.out.2.trans HT) H5 (by show k.m+1+1<=k.m+302;omega)⟩
  ·have d:Hid (pK M o=jM M p/\jL M o=([],M)):=⟨f.out.1,by rw[f.out.2,RD h0]⟩;have b0:(jM M p != 0)=G_:=by simpa using h0
   generalize jM M p=r at h0 b0 d;have b6:=ah h0;clear h0 f;go_wp2_with fail;go_ret2;exact⟨_,_,rfl,dQ.no r d.out.1 b6,fE.none_ d.out.2 (aZ.stay H V) (Tk _ _)⟩
def QY{g:Nat}{t:TypeId}:∀(vs:List D_) (o:Nat) (w:C_) (cur:Array D_),w.heap[g]? = A_ (R cur t (0,0))->o+vs.length<=cur.size->
  (w.setCells g o vs).heap[g]? = A_ (R (cur.toList.take o++vs++cur.toList.drop (o+vs.length)).toArray t (0,0))
 |[],o,w,cur,h,_=>by
  show w.heap[g]? = _;rw[h];simp
 |v::vs,o,w,cur,h,hs=>by
  show((w.setCell ⟨g,o,B_⟩ v).setCells g (o+1) vs).heap[g]? = _;rw[SC]at hs;rw[QY vs (o+1) _ _ (bg v h) (by simp;omega)]
  congr 2
  rw[Array.toList_setIfInBounds]
  congr 1
  rw[List.take_set,SQ (by simpa using(by omega:o<cur.size)),List.set_append_right _ _ (by rw[Tq];omega),List.drop_set_of_lt o7];have a:cur.toList.length=cur.size:=UH;have e:o - (cur.toList.take o).length=0:=by rw[Tq];omega
  rw[e];simp
  congr 1;omega
def aGc(g:Nat):∀(vs:List D_) (o:Nat) (w:C_),Out (λj=>j=g) w (w.setCells g o vs)
 |[],_,_=>Tz _ _
 |v::vs,o,w=>(bL w ⟨g,o,B_⟩ v).trans (aGc g vs (o+1) _) (aK.refl _ _)
def bJd(w:C_):(zeroValue 155).run prog w=.ok (.agg #[U G 0,U G 0,U G 0,U G 0,U G 0]) w:=k7
def bA6(W:C_)(g o c:Nat)(a:Array D_)(t:TypeId)(e:W.heap[g]? = A_ (R a t (0,0)))(b:o+5<=a.size):
  ∃W',(∀ty,(Builtin.clear_ #[127] ty #[J (A_ ⟨g,o,B_⟩) 1 c]).run prog W=.ok (.tuple #[]) W')
   /\W'.heap[g]? = A_ (R (a.toList.take o++[SX .i64 0,SX .i64 0,SX .i64 0,SX .i64 0,SX .i64 0]++a.toList.drop (o+5)).toArray t (0,0))/\Out (λj=>j=g) W W':=by
 refine⟨W.setRow g (a.toList.take o++[SX .i64 0,SX .i64 0,SX .i64 0,SX .i64 0,SX .i64 0]++a.toList.drop (o+5)).toArray,λty=>?_,setRow_heap W g _ _ t _ e,⟨rfl,rfl,rfl,by simp[World.setRow],λj _ f=>setRow_other W g j _ f⟩⟩;have d:=run_storeCells_at prog g o t [SX .i64 0,SX .i64 0,SX .i64 0,SX .i64 0,SX .i64 0] 0 a W e (by simpa using b) (by simp[Vk]);have l:=bJd W;have k:=run_underlying (P:=prog) underlying127 (w:=W);simp only[Nat.add_zero,SC,List.length_nil,Vz,Nat.reduceAdd]at d;simp[Builtin.clear_,k,l,Builtin.zeroCells,Value.cells];rw[show List.map (λi=>[SX .i64 0,SX .i64 0,SX .i64 0,SX .i64 0,SX .i64 0][i % 5]?.getD default) (List.range 5)=[SX .i64 0,SX .i64 0,SX .i64 0,SX .i64 0,SX .i64 0] from rfl,d];simp
def aFs(i:Nat)(l:List Ord):oV l=oV (l.take i)++oV (l.drop i):=by rw[<-BS,List.take_append_drop]
def aSw:oV (l.eraseIdx i)=oV (l.take i)++oV (l.drop (i+1)):=by rw[YC,BS]
def bA8(g cap i:Nat)(l:List Ord)(w:C_)(K:w.ownsRow 0 155 5 (J (A_ ⟨g,0,B_⟩) l.length cap) l.length (oV l))(hl:l.length<=1000)(hi:i<l.length):
  Sj prog 102 #[J (A_ ⟨g,0,B_⟩) l.length cap,U G i,U G ((i:Int)+1)] w λe w'=>e=Y (J (A_ ⟨g,0,B_⟩) (l.length - 1) cap)
   /\w'.ownsRow 0 155 5 (J (A_ ⟨g,0,B_⟩) (l.length - 1) cap) (l.length - 1) (oV (l.eraseIdx i))/\Out (λj=>j=g) w w':=by
 obtain⟨W,D,T,E,V⟩:=Vw GQ;rcases K.2 with⟨x,_⟩|⟨g',H,a,x,_,I,P,B,C,L⟩
 ·simp at x
 simp only[Value.slice.injEq,Option.some.injEq,Addr.mk.injEq,and_true,true_and]at x;obtain⟨rfl,rfl⟩:=x;clear K;unfold maxLen at B;have M:(oV (l.take i)).length=i*5:=by rw[yH,Tq];omega
 have d:(oV (l.drop (i+1))).length=(l.length - (i+1))*5:=by rw[yH,List.length_drop]
 have hcut:=L;have f:w.drew.heap[g]? = A_ (R a 155 (0,0)):=I
 obtain⟨A,N,v⟩:∃A:J_,(if cap=i+1 then A_ (⟨g,0,B_⟩:J_)else A_ ⟨g,(i+1)*5,B_⟩)=A_ A/\Hid (∀t u,(oV (l.drop (i+1)))[t]? = A_ u->w.drew.cell? (A.add t)=A_ u):=by
  by_cases h:cap=i+1
  ·refine⟨⟨g,0,B_⟩,by simp[h],λt u y=>?_⟩;have:=(Uz.1 y).1;omega
  ·refine⟨⟨g,(i+1)*5,B_⟩,by simp[h],λt u y=>?_⟩;have r:=(Uz.1 y).1;rw[Addr.add_lit];refine aj f ?_
   have e1:(a.toList.take (l.length*5))[(i+1)*5+t]? = A_ u:=by
    rw[hcut,aFs (i+1) l,List.getElem?_append_right (by rw[yH,Tq];omega),yH,Tq];rw[show(i+1)*5+t - min (i+1) l.length*5=t by omega];exact y
   rw[List.getElem?_take_of_lt o7]at e1;rw[<-Yl];exact e1
 have s3:Hid (∀t,t<(oV (l.drop (i+1))).length->(w.drew.cell? ⟨g,0+i*5+t,B_⟩).isSome=G_/\w.drew.frozen? ⟨g,0+i*5+t,B_⟩=E_):=λt S=>by
  refine⟨?_,aI f⟩;have r:0+i*5+t<a.size:=o7;rw[aj f (Array.getElem?_eq_getElem r)];rfl
 have s1:=ah d;have s2:Hid (∀u∈oV (l.drop (i+1)),u.oneCell'=G_):=Ng _;have k:=QY (oV (l.drop (i+1))) (0+i*5) w.drew a f o7;have n:=aGc g (oV (l.drop (i+1))) (0+i*5) w.drew;obtain⟨z,m⟩:∃z,z=w.drew.setCells g (0+i*5) (oV (l.drop (i+1))):=⟨_,rfl⟩;rw[<-m]at k n;have O:=ah m;obtain⟨c,b⟩:∃c:Array D_,c=(a.toList.take (0+i*5)++oV (l.drop (i+1))++a.toList.drop (0+i*5+(oV (l.drop (i+1))).length)).toArray:=⟨_,rfl⟩;rw[<-b]at k
 have p:c.size=cap*5:=by
  rw[b];simp[d];omega
 obtain⟨F,Q,q,s⟩:=bA6 z g ((l.length - 1)*5) (cap - (l.length - 1)) c 155 k o7
 have o:Hid (F.ownsRow 0 155 5 (J (A_ ⟨g,0,B_⟩) (l.length - 1) cap) (l.length - 1) (oV (l.eraseIdx i))/\Out (λj=>j=g) w F):=by
  refine⟨⟨by rw[yH,List.length_eraseIdx,RF hi],RN ⟨g,cap,_,rfl,Sv _,q,o7,by unfold maxLen;omega,?_,?_⟩⟩,?_⟩
  ·simp[p];omega
  ·rw[List.append_assoc,Wz (by rw[Tq,UH (xs:=c)];omega),List.take_take,Nat.min_self,b,aSw];show(a.toList.take (0+i*5)++oV (l.drop (i+1))++_).take _=_;rw[Vz,Wz (by rw[Sl,Tq,UH (xs:=a),d];omega),UW (by rw[Sl,Tq,UH (xs:=a),d];omega)]
   congr 1
   have:=RJ (List.take (i*5)) hcut;rw[List.take_take,Nat.min_eq_left o7]at this;rw[this,aFs i l,Wz o7,UW o7]
  ·exact(Sz (RS w.heap.size w).drew au).trans (n.trans s (aK.refl _ _)) (aK.refl _ _)
 clear k q n s hcut M d b p I f C L m;have q0:IntKind.i64.wrap ((i:Int)+1)=(i:Int)+1:=IntWalk.i64_in _ o7;have q1:(0:Int)<=(i:Int)+1:=o7;have q2:i<=l.length:=o7;have q3:((i:Int)+1).toNat=i+1:=o7;have q5:(i:Int)+1<=(l.length:Int):=o7;have q6:i<=cap:=o7;have a0:((i:Int) == (i:Int)+1)=E_:=RG.2 o7;have q8:i+1<=cap:=o7;have q9:i+(l.length - (i+1))=l.length - 1:=o7;have X:l.length - (l.length - 1)=1:=o7;have Z:¬cap=l.length - 1:=o7;go_enter func102,ntmps102;go_wp2_with fail;go_region_law (refine step_append_room rfl (.tmp 22) (.tmp 25) 127 rfl 155 W 5 underlying127 D E g 0 i cap (by simp[Act.eval,Act.put]) A (l.length - (i+1)) (cap - (i+1)) (oV (l.drop (i+1))) (by simp[Act.eval,Act.put]) s1.out v.out s2.out o7 s3.out ?_;rw[<-O.out,q9]);go_wp2_with fail;go_ret;exact⟨rfl,o.out⟩
def bA7(v:D_)(l:List Ord)(w:C_)(p:w.ownsRow 0 155 5 v l.length (oV l))(F:l.length<=1000):
  Sj prog 118 #[v] w λe w'=>∃v',e=Y v'/\w'.ownsRow w.heap.size 155 5 v' l.length (oV l)/\Below w.heap.size w w':=by
 obtain⟨E,o,q,s,r⟩:=Vw GQ;have H:∀(w:C_) (a:Option J_) (n c t i:Nat),(binOp .eql 127 (J a n c) (J B_ t i)).run prog w=.ok (.bool a.isNone) w:=λw a n c t i=>Lib.run_eql_slice_nil w _ _ a n c t i underlying127
 rcases p.2 with⟨rfl,h0⟩|⟨g,cap,B,rfl,_,x,D,C,m,z⟩
 ·obtain rfl:l=[]:=List.length_eq_zero_iff.1 h0;clear p;go_enter func118,ntmps118;go_wp2;go_ret;exact⟨_,rfl,Uo _ _ _ _,RS _ _⟩
 ·have A:Hid (∀j u,(oV l)[j]? = A_ u->w.cell? ⟨g,j,B_⟩=A_ u):=λj u d=>by
   refine aj x ?_;rw[<-z,List.getElem?_take]at d;split at d
   ·rw[<-Yl];exact d
   ·cases d
  clear p x m z;go_enter func118,ntmps118;go_wp2_with (at_builtin;refine wpList_append_own _ rfl _ _ 127 rfl w.heap.size 155 E (.agg #[U G 0,U G 0,U G 0,U G 0,U G 0]) 5 40 underlying127 o q s r rfl d7 _ _ _ rfl (World.ownsRow_made w #[] 0 au (Sv _) s7) ⟨g,0,B_⟩ l.length cap (oV l) rfl (yH l) (λj u d=>by rw[Addr.add_lit];exact Lib.cell?_alloc_some _ (by simpa using A.out j u d)) (Ng l) (by unfold maxLen;omega) o7 s7 ?_;intro v' w1 f b y);go_ret;refine⟨v',rfl,by simpa using f,?_⟩;exact((RS _ w).alloc au _).grown b s7 (λk hk=>by have e:A_ w.heap.size=A_ k:=hk;injection e with e;omega)
def aNr(a:Nat)(id:Int)(x:Ord)(w:C_)(hp:w.heap[a]? = A_ (R #[U G id] 3 (0,0))):
  Sj prog 101 #[.agg #[U G x.id,U G x.side,U G x.kind,U G x.price,U G x.ak],E (A_ ⟨a,0,B_⟩)] w λe w'=>e=Y (.bool (x.id == id))/\Below w.heap.size w w':=by
 have b:(w.alloc (R #[U G x.id,U G x.side,U G x.kind,U G x.price,U G x.ak] 155)).cell? ⟨a,0,B_⟩=A_ (U G id):=aj (j:=0) (aL hp (aM _ _) au) rfl;clear hp;go_enter func101,ntmps101;go_wp2;go_ret;exact⟨rfl,aM _ _⟩
def bA9(o:Nat)(id:Int)(a:Option J_)(cap:Nat)(l:List Ord)(w:C_)(B:l.length<=1000)(r:jV w a l)(hp:w.heap[o]? = A_ (R #[U G id] 3 (0,0))):
  Sj prog 100 #[J a l.length cap,.func (.func 101) #[] #[E (A_ ⟨o,0,B_⟩)]] w λe w'=>e=Y (U G (dz id l))/\Below w.heap.size w w':=by
 have t:=ah r;have s:=ah hp;clear r hp;go_enter func100,ntmps100;go_wp2_with fail;go_loopw [8] (λv wr=>∃j:Nat,j<=l.length/\v=U G j/\jY id j (l.drop j)=dz id l/\Below w.heap.size w wr) (λv _=>l.length - (intOf v).toNat)
 case atStart=>exact⟨0,Sv _,rfl,rfl,RS _ _⟩
 case round=>
  obtain⟨j,A,rfl,k,m⟩:=hrel;have p:=ah m;have c:=ah k;clear k
  by_cases d:j<l.length
  ·have q:(j:Int)<(l.length:Int):=o7;obtain⟨g,off,e1,u,x,y,z,c4⟩:=(t.out.below m) j d;subst e1;have n:Hid _:=aL s.out m au;clear m;go_wp2_with fail;refine(aNr o id (aO l j) _ n.out).mono ?_;rintro e w1 ⟨rfl,i⟩;have f:=ah (aJ p.out i);clear i u x y z c4
   by_cases b:(aO l j).id=id
   ·have HE:Hid (dz id l=(j:Int)):=by show _=_;rw[<-c.out];exact aVm d b
    rw[beq_iff_eq.2 b];clear b;go_wp2_with fail;go_ret;exact⟨by rw[HE.out];rfl,f.out⟩
   ·have HE:Hid (jY id (j+1) (l.drop (j+1))=dz id l):=by show _=_;rw[<-c.out];exact aVn d b
    rw[RG.2 b];clear b;go_wp2_with fail;go_roundw
    case rel=>exact⟨j+1,o7,by go_num,HE.out,f.out⟩
    case measure=>first|(simp[intOf];omega)|(show l.length - (j+1)<l.length - j;omega)|omega
  ·have HE:Hid (dz id l=-1):=by show _=_;rw[<-c.out];exact aVl o7
   go_wp2_with fail;go_ret;exact⟨by rw[HE.out];rfl,p.out⟩
def aU6(i:Nat)(l:List Ord):rX i l=l.eraseIdx i:=(YC l i).symm
def aR6(eb:Nat)(k:bC)(M:aG)(w:C_)(h:Eg w eb k M)(d:M.P.length<=1000):
  Sj prog 87 #[E (A_ ⟨eb,0,B_⟩)] w λe w'=>∃v,e=Y v/\w'.ownsRow w.heap.size 155 5 v M.P.length (oV M.P)/\Below w.heap.size w w':=by
 have f:w.cell? ⟨eb,3,B_⟩=A_ k.vp:=aj (j:=3) h.box rfl;have c:Hid _:=h.pk;clear h;go_enter func87,ntmps87;go_wp2_with fail;refine(bA7 k.vp M.P w c.out d).mono ?_;rintro e w1 ⟨v',rfl,h1,h2⟩;have a:Hid _:=h1;have b:Hid _:=h2;clear h1 h2;go_wp2_with fail;go_ret;exact⟨v',rfl,a.out,b.out⟩
def aRs(h:Bk w bb m b)(p:m+1<=900000)(d:bD b.S L)(id:Int)(v:(Tv .i64 id).wf=G_):
  Sj prog 103 #[E (A_ ⟨bb,0,B_⟩),U G id] w λe f=>∃(x:Ord) (err:D_),e=Y (.tuple #[.agg #[U G x.id,U G x.side,U G x.kind,U G x.price,U G x.ak],err])/\dQ err (tC id L)/\(err=.nilIface\/err=.iface 30 (U G 7))/\∃b',bD b'.S (kI id L)/\Goes w f bb (m+1) b b':=by
 rcases Hl b.S id with⟨s,n,x,q,rfl⟩|c
 ·obtain⟨k,hk,hi,ho⟩:=Md d n q;have a:¬dz x.o.id L=-1:=o7;have l:(dz x.o.id L).toNat=k:=o7;refine(KE bb m s b x w h p n q).mono ?_;rintro e f ⟨rfl,b',⟨i,g,j,r⟩,u⟩;refine⟨x.o,.nilIface,rfl,dQ.yes (by unfold tC;rw[RD a]),RP rfl,b',?_,u⟩;unfold kI;rw[RD a,l,r];exact d.gone h.ok n g j hk (by rw[ho])
 ·have h1:=d.DK c;refine(Rt bb m b id w h v c).mono ?_;rintro e f ⟨rfl,t⟩;exact⟨Ord.none_,_,rfl,dQ.no 7 (by unfold tC;rw[RF h1]) d7,RN rfl,b,by unfold kI;rw[RF h1];exact d,Goes.stay h t (Uk _) p⟩
def aZ.aNe{lb:Nat}{k2:bC}{M2:aG}{vs:Array D_}(b:aZ w w2 eb k k2 M2)(d:w2.heap[lb]? = A_ (R vs 155 (0,0)))(a:w.heap.size<=lb)(c:k2.tb≠lb/\k2.cb≠lb)(hv:k2.vp.ownBlock≠A_ lb)(x:Ord):
  aZ w (((((w2.setCell ⟨lb,0,B_⟩ (U G x.id)).setCell ⟨lb,1,B_⟩ (U G x.side)).setCell ⟨lb,2,B_⟩ (U G x.kind)).setCell ⟨lb,3,B_⟩ (U G x.price)).setCell ⟨lb,4,B_⟩ (U G x.ak)) eb k k2 M2:=b.boxed d a c hv x
def PY(w:C_)(eb:Nat)(k:bC)(M:aG)(id:Int)(u7:D_)(wc:C_):Prop:=∃b':aU,dQ u7 (tC id M.L)/\aZ w wc eb k { k with m:=k.m+1,b:=b' } { M with L:=kI id M.L }
def aAb{id:Int}{u7:D_}(h1:dQ u7 (tC id M.L))(h2:aZ w wc eb k { k with m:=k.m+1,b:=b' } { M with L:=kI id M.L }):PY w eb k M id u7 wc:=⟨b',h1,h2⟩
def aRt(eb:Nat)(k:bC)(M:aG)(id:Int)(w:C_)(h:Eg w eb k M)(hP:M.P.length<=1000)(hw:(Tv .i64 id).wf=G_)(hm:k.m<=700000):
  Sj prog 75 #[E (A_ ⟨eb,0,B_⟩),U G id] w λe w'=>∃B k',e=Y B/\dQ B (tF M id)/\aZ w w' eb k k' (oU M id)/\k'.m<=k.m+302:=by
 have H:=ah h;have HW:=ah hw;have d:=aM w (R #[U G id] 3);have r:=RU w (R #[U G id] 3);clear h hw
 by_cases o:M.ph=7
 ·have u:Hid (tF M id=6/\oU M id=M):=⟨by unfold tF;rw[RF o],by unfold oU;rw[RF o]⟩;have b7:=beq_iff_eq.2 o;clear o;go_enter func75,ntmps75;go_upto_region 1 with fail;generalize w.alloc (R #[U G id] 3)=w1 at d r⊢;have c5:w1.cell? ⟨eb,5,B_⟩=A_ (U G M.ph):=aj (j:=5) (H.out.below d).box rfl;have s:=ah d;clear d r;go_wp2_with fail;go_ret;exact⟨_,k,rfl,dQ.no 6 u.out.1 d7,by rw[u.out.2];exact aZ.stay H.out s.out,Tk _ _⟩
 ·have b7:=RG.2 o;go_enter func75,ntmps75;go_upto_region 1 with fail;generalize w.alloc (R #[U G id] 3)=w1 at d r⊢;have h1:=H.out.below d;obtain⟨pa,K,F,a0⟩:=jV.pI h1.pk;have c5:w1.cell? ⟨eb,5,B_⟩=A_ (U G M.ph):=aj (j:=5) h1.box rfl;have c3:w1.cell? ⟨eb,3,B_⟩=A_ (J pa M.P.length K):=(aj (j:=3) (v:=k.vp) h1.box rfl).trans (by rw[F]);have y:=ah F;have s:=ah d;have A:=ah r;have T:=ah a0;clear d r h1 F a0;go_wp2_with fail;refine(bA9 w.heap.size id pa K M.P w1 hP T.out A.out).mono ?_;rintro e w2 ⟨rfl,C⟩;have t:=ah (aJ s.out C);have c:=ah (H.out.below t.out);have a9:Hid (w2.heap[w.heap.size]? = A_ (R #[U G id] 3 (0,0))):=aL A.out C au;clear C c5 c3 T A s
  by_cases l:0<=dz id M.P
  ·have u:Hid (tF M id=0/\oU M id={ M with P:=rX (dz id M.P).toNat M.P }):=⟨by unfold tF;rw[RD o,RF l],by unfold oU;rw[RD o,RF l]⟩
   obtain⟨i,hi,Z⟩:∃i:Nat,i<M.P.length/\dz id M.P=(i:Int):=by
    rcases DJ id M.P 0 with e|⟨i,hi,e,_⟩
    ·have e':dz id M.P=-1:=e;omega
    ·refine⟨i,hi,?_⟩;have e':dz id M.P=((0+i:Nat):Int):=e;rw[e'];congr 1;omega
   rw[Z]at u⊢;clear o l Z;have q:w2.ownsRow 0 155 5 (J pa M.P.length K) M.P.length (oV M.P):=by have:=c.out.pk;rw[y.out]at this;exact this
   obtain⟨g,cap,hv,_,_⟩:=q.form o7;simp only[Value.slice.injEq,true_and]at hv;obtain⟨rfl,rfl⟩:=hv;have c3:w2.cell? ⟨eb,3,B_⟩=A_ (J (A_ ⟨g,0,B_⟩) M.P.length K):=(aj (j:=3) (v:=k.vp) c.out.box rfl).trans (by rw[y.out]);have wr:IntKind.i64.wrap ((i:Int)+1)=(i:Int)+1:=IntWalk.i64_in _ o7;have V:Hid _:=q;clear q;go_wp2_with fail;refine(bA8 g K i M.P w2 V.out hP hi).mono ?_;rintro e w3 ⟨rfl,a2,n⟩;have f:Out (λj=>k.vp.ownBlock=A_ j) w2 w3:=⟨n.os,n.tape,n.output,n.size,λj hj hn=>n.block j hj (λe=>hn (by rw[y.out];exact RJ A_ e.symm))⟩;have p:(M.P.eraseIdx i).length=M.P.length - 1:=by rw[List.length_eraseIdx,RF hi]
   have z:=c.out.Nk (P':=M.P.eraseIdx i) f (by rw[p];exact a2) (λj hj=>RP (by rw[y.out];exact hj));have d3:w3.cell? ⟨eb,3,B_⟩=A_ k.vp:=aj (j:=3) (aH c.out.box f c.out.yj) rfl;have f3:=aI (j:=3) (aH c.out.box f c.out.yj);have O:=ah ((aZ.stay H.out t.out).trans z);clear a2 n f p z;go_wp2_with fail;go_ret;exact⟨_,{ k with vp:=J (A_ ⟨g,0,B_⟩) (M.P.length - 1) K },rfl,dQ.yes u.out.1,by rw[u.out.2,show((i:Int)).toNat=i from rfl,aU6];exact O.out,Tk _ _⟩
  ·have u:Hid (tF M id=tC id M.L/\oU M id={ M with L:=kI id M.L }):=⟨by unfold tF;rw[RD o,RD l],by unfold oU;rw[RD o,RD l]⟩;have e1:=l;clear o;go_upto_region 7 with fail;have X:¬k.b.foot k.bb w.heap.size:=λe=>by have:=H.out.bk.lt e;omega
   have a7:Hid (∀w',Out (k.b.foot k.bb) w2 w'->w'.cell? ⟨eb,2,B_⟩=A_ (E (A_ ⟨k.bb,0,B_⟩))/\w'.cell? ⟨w.heap.size,0,B_⟩=A_ (U G id)/\Out (k.b.foot k.bb) w2 w'):=λw' ho=>⟨aj (j:=2) (aH c.out.box ho c.out.yh) rfl,aj (j:=0) (aH a9.out ho X) rfl,ho⟩
   have a1:¬k.b.foot k.bb w2.heap.size:=λe=>by have:=c.out.bk.lt e;omega
   have a5:=ah a1;have a4:Hid (k.tb≠w2.heap.size/\k.cb≠w2.heap.size):=⟨by have:=c.out.Aq;omega,by have:=c.out.oD;omega⟩;have a8:Hid (k.vp.ownBlock≠A_ w2.heap.size):=λe=>by have:=(c.out.pk.lt _ e).2;omega
   have b1:k.m+1<=900000:=o7;clear X a1;go_cut [6,7] from 33 to 41 (λ_ u7 wc=>PY w eb k M id u7 wc)
   case first=>
    go_region_held3 (λw'=>w'.cell? ⟨eb,2,B_⟩=A_ (E (A_ ⟨k.bb,0,B_⟩))/\w'.cell? ⟨w.heap.size,0,B_⟩=A_ (U G id)/\Out (k.b.foot k.bb) w2 w')
     ((refine a7.out _ ?_;(repeat' first|assumption|exact a6.out|exact Tz _ _|refine fI ?_|refine ug ?_ _|refine Af ?_ ?_|(simp;done)|(simp;omega))))
     ((go_at_call 103;refine(aRs (c.out.bk.below ?_ au) b1 c.out.bU id HW.out).mono ?_;((repeat' first|assumption|exact RS _ _|exact au|refine Um ?_|refine TR ?_ ?_ _|(simp;done)|(simp;omega)));rintro e w3 ⟨x,B,rfl,W,b2,I,p,D⟩;have Q:Hid (Goes w2 w3 k.bb (k.m+1) k.b I):=Gz c.out.bk (by(repeat' first|assumption|exact RS _ _|exact au|refine Um ?_|refine TR ?_ ?_ _|(simp;done)|(simp;omega))) D;have a6:Hid (Out (k.b.foot k.bb) w2 w3):=Q.out.2.1;have a3:Hid _:=p;have N:Hid _:=W;(try(have a:w3.heap[w2.heap.size]? = A_ (R #[U G 0,U G 0,U G 0,U G 0,U G 0] 155 (0,0)):=(D.2.1.block _ s7 a5.out).trans (RU _ _);have z0:=aj (j:=0) a rfl;have z1:=aj (j:=1) a rfl;have z2:=aj (j:=2) a rfl;have z3:=aj (j:=3) a rfl;have z4:=aj (j:=4) a rfl;have y0:=aI (j:=0) a;have y1:=aI (j:=1) a;have y2:=aI (j:=2) a;have y3:=aI (j:=3) a;have y4:=aI (j:=4) a;have b0:Hid (CP w3 w2.heap.size):=a;clear a));clear p D W))
    all_goals have S:Hid (aZ w w3 eb k { k with m:=k.m+1,b:=I } { M with L:=kI id M.L }):=(aZ.stay H.out t.out).trans (c.out.wW Q.out a3.out (Uk _))
    all_goals go_wp2_with fail
    all_goals go_meet
    all_goals first|exact aAb (b':=I) N.out (aZ.aNe S.out b0.out t.out.size a4.out a8.out x)|exact aAb (b':=I) N.out (S.out.oN (aM _ _))
   case rest=>
    obtain⟨I,W,hg⟩:=hcut;have HE:=ah W;have HG:=ah hg;clear W hg;go_wp2_with fail;go_ret;exact⟨u7,{ k with m:=k.m+1,b:=I },rfl,by rw[u.out.1];exact HE.out,by rw[u.out.2];exact HG.out,by show k.m+1<=k.m+302;omega⟩
end Go.Proofs.YtpodibeogglplaaGreatDoor
