/- ManyWorkers -/
import Derived.Test.YtpodibeogglplaaGreatDoorVH
open Go.RowKit Go.Shelf
open Go.Value renaming int->U, pointer->E, slice->J
open Go.IntKind renaming i64->G
open Go.Obj renaming cells->R
open Go.Ending renaming returned->Y
open Go.Proofs.Tryz
open Array renaming getElem?_eq_none->Te, replicate->UJ
open Bool renaming true->G_, false->E_, and_eq_true->SV
open Classical renaming byContradiction->SL
open Go renaming World->C_, Value->D_, Program->TB, TypeId->RZ, Addr->J_, Calls->Sj, info_parts->Vw, heap_alloc_new->RU, execOp->XQ
open Go.ByteArray renaming toList_eq->ZU
open Go.Lib renaming parseIntB->O_, itoa->Wi, itoa_length_le->UR, join->Yt, spansFromP->YH
open Go.Proofs.YtpodibeogglplaaGreatDoor.aK renaming refl->Tc
open Go.Region renaming Mode->XW, ready->Tx, binds->Yw, noSelect->Zf, wanted->Vv
open Go.RowKit renaming Below->Sd
open Go.RowKit.Below renaming refl->RS
open Go.Utf8 renaming decode->ZC
open Go.Value renaming int->SX, string->Zb, oneCell'->Vk
open Go.WalkArith renaming wf_i64->Yc
open Go.World renaming block_lt_of_cell?->SN, cell?_setCell_other->Yo
open Int renaming le_refl->VJ
open List renaming length_filter_le->UC, length_map->TL, mem_append->Uy, mem_singleton->TT, length_append->Sl, length_take->Tq, mem_cons_self->SG, mem_cons_of_mem->SI, mem_cons->SB, replicate->Zx, mem_of_getElem?->WQ, getElem?_eq_some_iff->Uz, take_succ_eq_append_getElem->SQ, take_length->Vd, mem_map->Ti, not_mem_nil->Ud, length_cons->SC, length_nil->Ui
open Nat renaming le_trans->RV, zero_le->Sv, zero_add->Vz, lt_or_ge->Us
open Option renaming some->A_, none->B_
open Or renaming inr->RN, inl->RP
set_option linter.all false
set_option maxHeartbeats 4000000
set_option maxRecDepth 100000
namespace Go.Proofs.YtpodibeogglplaaGreatDoor
variable {z:Int} {o:Ord} {rs:List (Int×Int)} {st dy p ti mo:Int} {w:C_} {eb:Nat} {w':C_} {lo sb n:Nat} {s:ByteArray} {v:D_} {P:TB} {ops:Array Oper} {Q:Exit->Act->C_->Prop} {md:XW} {S:Nat->C_->Prop} {L:Nat->Nat->Bool} {i d:Nat} {b:Array Bool} {a:Act} {oi:Oper} {r:Int×List UInt8} {t:List UInt8} {m:Int} {e:RZ} {xs:List D_}
def mF(h:-1000000000<=z/\z<=1000000000):dN z:=⟨by omega,by omega⟩
def aXg{id n:Int}{L:List Ord}{x:Ord}(h:x∈bR id n L):∃y∈L,y.id=x.id/\y.side=x.side/\y.kind=x.kind/\y.price=x.price:=by
 obtain⟨y,a,e,_⟩:=MC h;exact⟨y,a,by rw[e,KP],by rw[e,Dl],by rw[e,KQ],by rw[e,FP]⟩
def aXh(id n:Int)(L:List Ord):(bR id n L).length<=L.length:=by
 unfold bR;have:=UC (λo:Ord=>decide (0<o.ak)) (L.map (dO id n));rw[TL]at this;exact this
def aEg(o:Ord):(dG o).kind=o.kind:=by unfold dG;split<;>rfl
def aK4{x:Ord}{L:List Ord}(h:x∈fF o L):x∈L\/x=dG o:=by
 unfold fF at h;split at h
 ·exact(Uy.1 h).imp id TT.1
 ·exact .inl h
def Ka(o:Ord)(L:List Ord):(fF o L).length<=L.length+1:=by
 unfold fF;split
 ·rw[Sl];exact au
 ·omega
def aC4{k:Nat}{L:List Ord}{x:Ord}(h:x∈rX k L):x∈L:=by
 unfold rX at h;exact(Uy.1 h).elim List.mem_of_mem_take List.mem_of_mem_drop
def aC3(i:Nat)(L:List Ord):(rX i L).length<=L.length:=by
 unfold rX;rw[Sl,Tq,List.length_drop];omega
def aNt(id:Int)(L:List Ord):(∀x∈kI id L,x∈L)/\(kI id L).length<=L.length:=by
 unfold kI;split
 ·exact⟨λ_ h=>h,au⟩
 ·exact⟨λ_ h=>aC4 h,aC3 _ _⟩
def aDz{P:Int->Prop}:∀{ts:List Int} {la:Int},P la->(∀t∈ts,P t)->P (iG la ts)
 |[],_,h,_=>h
 |t::ts,_,_,h=>aDz (ts:=ts) (la:=t) (h t (SG ..)) (λu a=>h u (SI _ a))
def nG(L:List Ord):Prop:=∀o∈L,dN o.kind/\dN o.id
def nG.less{L:List Ord}(h:nG L)(id n:Int):nG (bR id n L):=λx a=>by
 obtain⟨y,b,e1,_,e,_⟩:=aXg a;rw[<-e,<-e1];exact h y b
def nG.add{L:List Ord}(h:nG L)(ho:dN o.kind/\dN o.id):nG (fF o L):=λx a=>by
 rcases aK4 a with h1|h1
 ·exact h x h1
 ·rw[h1,aEg,DU];exact ho
def oI(fs:List dx):Prop:=∀f∈fs,Bu f
def oI.snoc{fs:List dx}(h:oI fs){f:dx}(a:Bu f):oI (fs++[f]):=λg b=>(Uy.1 b).elim (h g) λe=>by rw[TT.1 e];exact a
def aB1{p:Int}(hp:dN p):∀(n:Nat) (s:FS),pV p s->nG s.L->oI s.fs->nG (qP p n s).L/\oI (qP p n s).fs
 |0,_,_,h,hf=>⟨h,hf⟩
 |n+1,s,hF,h,hf=>by
  unfold qP
  by_cases g:s.q<=0
  ·rw[RF g];exact⟨h,hf⟩
  rw[RD g];obtain⟨⟨x,T,y,U,_,_,c,d,a,f,_,h1,_,h3,_,_,e,_,_,_⟩,b⟩:=Dv hF (by omega);refine aB1 hp n _ b (by rw[e];exact(h.less _ _).less _ _) ?_;show oI (s.fs++[⟨(nK 1 s.L).id,(nK 2 s.L).id,p,dD s⟩]);have:=(hF.ok.ok x a).2.2.2;exact hf.snoc ⟨by rw[c];exact(h x a).2,by rw[d];exact(h y f).2,hp,mF (by show _<=dD s/\dD s<=_;omega)⟩
def aBz{p:Int}:∀(n:Nat) (s:FS),(qP p n s).fs.length<=s.fs.length+n
 |0,_=>au
 |n+1,s=>by
  unfold qP;split
  ·omega
  ·have:=aBz (p:=p) n (jX p s);have e:(jX p s).fs.length=s.fs.length+1:=by show(s.fs++[_]).length=_;rw[Sl];rfl
   omega
def aE1{al:List Int->Int->Bool}{o:Ord}(ho:dN o.id):∀(X:List Ord) (s:MS),(∀x∈X,dN x.id/\1<=x.price/\x.price<=1000000/\1<=x.ak/\x.ak<=1000000)->nG s.L->oI s.fs->(∀t∈s.ts,1<=t/\t<=1000000)->
  nG (dH al o X s).1.L/\oI (dH al o X s).1.fs/\(∀t∈(dH al o X s).1.ts,1<=t/\t<=1000000)/\(dH al o X s).1.L.length<=s.L.length
 |[],s,_,h,hf,ht=>by unfold dH;exact⟨h,hf,ht,au⟩
 |x::T,s,hX,h,hf,ht=>by
  have g:=λs=>aE1 (al:=al) ho T s (λy i=>hX y (SI _ i))
  unfold dH;split
  ·exact⟨h,hf,ht,au⟩
  split
  ·exact g s h hf ht
  split
  ·exact⟨h,hf,ht,au⟩
  split
  ·obtain⟨h1,h2,h3,j,k⟩:=hX x (SG ..)
   obtain⟨a,b,c,d⟩:=g (pF o x s) (h.less _ _) (by
    refine hf.snoc ?_;have f:dN (min s.q x.ak):=mF (by omega);have hp:dN x.price:=mF (by omega);unfold sj;split
    ·exact⟨ho,h1,hp,f⟩
    ·exact⟨h1,ho,hp,f⟩) (λt h=>(Uy.1 h).elim (ht t) λe=>by rw[TT.1 e];exact⟨h2,h3⟩)
   exact⟨a,b,c,RV d (aXh _ _ _)⟩
  ·exact⟨h,hf,ht,au⟩
structure MA(M:aG):Prop where
 tab:eZ M.rs=(0,-1)
 rl:M.rs.length<=60
 an:1<=M.an/\M.an<=1000000
 la:1<=M.la/\M.la<=1000000
 ti:1<=M.ti/\M.ti<=1000000
 lo:0<=M.lo/\M.lo<=M.mo/\M.mo<=10
 now:0<=M.now
 few:M.L.length+M.P.length<=100
 l:nG M.L
 p:∀o∈M.P,yK o
structure MI(M:aG):Prop extends MA M where
 ph:M.ph=6\/(M.ph=4/\(bY M.rs M.now).1=3)\/M.ph=(bY M.rs M.now).1
def aZ9(h:dN z):(Lit.int .i64 z).wf=G_:=Yc h
def MI.num{M:aG}(h:MI M)(hn:M.now<=1000000000):zm M:=
 ⟨h.la,by have:=h.few;omega,λo ho=>aZ9 (h.p o ho).1,⟨h.now,hn⟩,by have:=h.ti;omega,by have:=h.lo;omega,⟨(Jv h.tab).1,h.rl⟩⟩
def MI.aL9{M:aG}(h:MI M)(h3:(bY M.rs (M.now+1)).1=3)(c:(bY M.rs M.now).1≠3)(b:M.ph≠6):kX M.ph=G_:=by
 rcases bB2 h.tab h.now with e|e
 ·exact absurd (e.symm.trans h3) c
 ·rw[h3]at e;rcases aCd e with⟨e1,e2⟩|⟨e1,_⟩|⟨e1,e2|e2⟩|⟨e1,e2⟩
  ·omega
  ·rcases h.ph with a|⟨_,a⟩|a
   ·exact absurd a b
   ·omega
   ·rw[a,e1];rfl
  ·omega
  ·omega
  ·omega
def MI.aF6{M:aG}(h:MI M)(a:dZ M.L):∀o∈M.L,yK o:=λo ho=>by
 have h1:=a.ok o ho;exact⟨(h.l o ho).2,(h.l o ho).1,mF (by omega),mF (by omega)⟩
def MA.unc{M:aG}(h:MA M)(k:dZ M.L):MA (dF M).2/\oI (dF M).1:=by
 have e:∀{L:List Ord},nG L->L.length<=M.L.length->nG (zW L)/\(zW L).length+M.P.length<=100:=λhk n=>⟨λx m=>hk x (List.mem_filter.1 m).1,by
  have h1:=UC (λo:Ord=>o.kind == 1) ‹List Ord›;have:=h.few;show(List.filter _ _).length+_<=_;omega⟩
 unfold dF
 by_cases g:0<(aV M).ak
 ·rw[RF g];have j:=QF (more:=M.la) M.la k g;have hp:1<=(aV M).price/\(aV M).price<=1000000:=KI k h.la g;obtain⟨a,b⟩:=aB1 (p:=(aV M).price) (mF (by omega)) (M.L.length+1) _ j h.l (λf i=>by cases i);have c:=(aB0 (M.L.length+1) j).2;obtain⟨a,d⟩:=e a c;exact⟨⟨h.tab,h.rl,hp,hp,h.ti,h.lo,h.now,d,a,h.p⟩,b⟩
 ·rw[RD g];obtain⟨a,d⟩:=e h.l au;exact⟨⟨h.tab,h.rl,h.an,h.la,h.ti,h.lo,h.now,d,a,h.p⟩,λf i=>by cases i⟩
def aD2:∀(P L:List Ord),(∀o∈P,yK o)->nG L->nG (P.foldl (λL o=>fF o L) L)/\(P.foldl (λL o=>fF o L) L).length<=L.length+P.length
 |[],_,_,h=>⟨h,au⟩
 |o::P,L,hP,h=>by
  have ho:=hP o (SG ..);obtain⟨a,b⟩:=aD2 P (fF o L) (λx c=>hP x (SI _ c)) (h.add ⟨ho.2.1,ho.1⟩);have:=Ka o L;exact⟨a,by show(List.foldl _ (fF o L) P).length<=L.length+(P.length+1);omega⟩
def MA.aAa{M:aG}(h:MA M):MA (xX M):=by
 obtain⟨a,b⟩:=aD2 M.P M.L h.p h.l;have:=h.few;exact⟨h.tab,h.rl,h.an,h.la,h.ti,h.lo,h.now,by show(M.P.foldl (λL o=>fF o L) M.L).length+0<=100;omega,a,λo ho=>by cases ho⟩
def Pp(M:aG):(dF M).2.rs=M.rs/\(dF M).2.now=M.now:=by unfold dF;split<;>exact⟨rfl,rfl⟩
def MA.res{M:aG}(h:MA M)(c:dZ M.L)(hp:(bY M.rs M.now).1=3):MI (qY M).2/\oI (qY M).1:=by
 obtain⟨a,b⟩:=h.unc c;obtain⟨e1,e2⟩:=Pp M;exact⟨⟨⟨a.tab,a.rl,a.an,a.la,a.ti,a.lo,a.now,a.few,a.l,a.p⟩,.inr (.inr (by show 3=(bY (dF M).2.rs (dF M).2.now).1;rw[e1,e2,hp]))⟩,b⟩
def oI.nil:oI []:=λf a=>by cases a
def MI.tick{M:aG}(h:MI M)(k:dZ M.L):oI (fK M).1/\MI (fK M).2:=by
 unfold fK
 by_cases n:M.ph=7
 ·rw[RF n];exact⟨.nil,h⟩
 rw[RD n,Pd];have c:MA { M with now:=M.now+1 }:=⟨h.tab,h.rl,h.an,h.la,h.ti,h.lo,by show 0<=M.now+1;have:=h.now;omega,h.few,h.l,h.p⟩;have m:=bB1 (now:=M.now) h.tab;have d:=h.ph;split
 ·rename_i i7;unfold lC;have g:∀{N:aG},MA N->N.rs=M.rs->N.now=M.now+1->MI { N with L:=[],P:=[],ph:=7 }:=fun {N} a e1 e2=>⟨⟨a.tab,a.rl,a.an,a.la,a.ti,a.lo,a.now,Sv _,(λo ho=>by cases ho),(λo ho=>by cases ho)⟩,.inr (.inr (by show 7=(bY N.rs N.now).1;rw[e1,e2,i7]))⟩
  split
  ·obtain⟨a,b⟩:=c.unc k;exact⟨b,g a (Pp _).1 (Pp _).2⟩
  ·exact⟨.nil,g c rfl rfl⟩
 split
 ·rename_i i;exact⟨.nil,⟨c,.inl i⟩⟩
 rename_i i;replace i:¬M.ph=6:=i;split
 ·unfold sK;split
  ·rename_i h3;obtain⟨a,b⟩:=c.res k h3;exact⟨b,a⟩
  split
  ·rename_i h5;exact⟨.nil,⟨c.aAa,.inr (.inr h5.symm)⟩⟩
  ·exact⟨.nil,⟨⟨c.tab,c.rl,c.an,c.la,c.ti,c.lo,c.now,c.few,c.l,c.p⟩,.inr (.inr rfl)⟩⟩
 rename_i hw;have f:(bY M.rs (M.now+1)).1=(bY M.rs M.now).1:=SL hw;split
 ·rename_i h4;have j:M.ph=4:=h4.1
  have h3:(bY M.rs (M.now+1)).1=3:=by
   rw[f];rcases d with e|⟨_,e⟩|e
   ·omega
   ·exact e
   ·omega
  unfold sF;split
  ·obtain⟨a,b⟩:=c.res k h3;exact⟨b,a⟩
  split
  ·rename_i hl;have q:M.lo<M.mo:=hl;have:=h.lo;exact⟨.nil,⟨⟨c.tab,c.rl,c.an,c.la,c.ti,by show 0<=M.lo+1/\M.lo+1<=M.mo/\M.mo<=10;omega,c.now,c.few,c.l,c.p⟩,.inr (.inl ⟨j,h3⟩)⟩⟩
  ·exact⟨.nil,⟨⟨c.tab,c.rl,c.an,c.la,c.ti,c.lo,c.now,c.few,c.l,c.p⟩,.inl rfl⟩⟩
 ·exact⟨.nil,⟨c,by
   show M.ph=6\/(M.ph=4/\(bY M.rs (M.now+1)).1=3)\/M.ph=(bY M.rs (M.now+1)).1;rw[f];exact d⟩⟩
def MI.ord{M:aG}(h:MI M)(v:dZ M.L)(hi:dN o.id)(hk:dN o.kind):oI (jL M o).1/\MI (jL M o).2:=by
 unfold jL;split
 ·rename_i hz;have r:Qf M (dG o):=aHd (by rw[<-Nz];exact hz);have s:=r.room;have g:dN (dG o).id:=by rw[DU];exact hi
  have i:dN (dG o).kind:=by rw[aEg];exact hk
  have n:=r.right;generalize dG o=q at r g i n;unfold uD;split
  ·exact⟨.nil,⟨⟨h.tab,h.rl,h.an,h.la,h.ti,h.lo,h.now,by show M.L.length+(M.P++[q]).length<=100;rw[Sl,List.length_singleton];omega,h.l,λx m=>(Uy.1 m).elim (h.p x) λe=>by rw[TT.1 e];exact⟨g,i,mF (by omega),mF (by omega)⟩⟩,h.ph⟩⟩
  split
  ·exact⟨.nil,⟨⟨h.tab,h.rl,h.an,h.la,h.ti,h.lo,h.now,by show(fF q M.L).length+M.P.length<=100;have:=Ka q M.L;omega,h.l.add ⟨i,g⟩,h.p⟩,h.ph⟩⟩
  ·rename_i h3;have u:M.ph=3:=SL h3
   have k:(bY M.rs M.now).1=3:=by
    rcases h.ph with e|⟨e,_⟩|e
    ·omega
    ·omega
    ·omega
   obtain⟨a,b,c,d⟩:=aE1 (al:=vT { M with I:=M.I++[o.id] }) g (aP (3 - q.side) M.L) ⟨[],M.L,q.ak,[]⟩ (λx m=>⟨(h.l x (oo.1 m).1).2,v.ok x (oo.1 m).1⟩) h.l .nil (λt y=>by cases y);have f:=aDz (P:=λz=>1<=z/\z<=1000000) h.la c;unfold nC;show oI (dH (vT { M with I:=M.I++[o.id] }) q (aP (3 - q.side) M.L) ⟨[],M.L,q.ak,[]⟩).1.fs/\_;refine⟨b,?_⟩;have e:bZ { M with I:=M.I++[o.id] } q=dH (vT { M with I:=M.I++[o.id] }) q (aP (3 - q.side) M.L) ⟨[],M.L,q.ak,[]⟩:=rfl;rw[e];generalize dH (vT { M with I:=M.I++[o.id] }) q (aP (3 - q.side) M.L) ⟨[],M.L,q.ak,[]⟩=mt at a b c d f
   have j:nG (if 0<mt.1.q/\q.kind≠2 then fF (eD q mt.1.q) mt.1.L else mt.1.L)/\(if 0<mt.1.q/\q.kind≠2 then fF (eD q mt.1.q) mt.1.L else mt.1.L).length<=M.L.length+1:=by
    have d':mt.1.L.length<=M.L.length:=d;split
    ·have:=Ka (eD q mt.1.q) mt.1.L;exact⟨a.add ⟨i,g⟩,by omega⟩
    ·exact⟨a,by omega⟩
   dsimp only;have w:=h.lo;generalize(if 0<mt.1.q/\q.kind≠2 then fF (eD q mt.1.q) mt.1.L else mt.1.L)=L2 at j⊢;split
   ·exact⟨⟨h.tab,h.rl,h.an,f,h.ti,by show 0<=0/\0<=M.mo/\M.mo<=10;omega,h.now,by show L2.length+M.P.length<=100;have:=j.2;omega,j.1,h.p⟩,.inr (.inl ⟨rfl,k⟩)⟩
   ·exact⟨⟨h.tab,h.rl,h.an,f,h.ti,h.lo,h.now,by show L2.length+M.P.length<=100;have:=j.2;omega,j.1,h.p⟩,h.ph⟩
 ·exact⟨.nil,h⟩
def MI.less{M:aG}(h:MI M){a P':List Ord}(h1:(∀x∈a,x∈M.L)/\a.length<=M.L.length)(h2:(∀x∈P',x∈M.P)/\P'.length<=M.P.length):MI { M with L:=a,P:=P' }:=
 ⟨⟨h.tab,h.rl,h.an,h.la,h.ti,h.lo,h.now,by show a.length+P'.length<=100;have:=h.few;omega,λx b=>h.l x (h1.1 x b),λx b=>h.p x (h2.1 x b)⟩,h.ph⟩
def MI.can{M:aG}(h:MI M)(id:Int):MI (oU M id):=by
 unfold oU;split
 ·exact h
 split
 ·exact h.less ⟨λ_ a=>a,au⟩ ⟨λ_ a=>aC4 a,aC3 _ _⟩
 ·exact h.less (aNt _ _) ⟨λ_ a=>a,au⟩
def MI.halt{M:aG}(h:MI M):MI (oZ M):=by
 unfold oZ;split
 ·exact h
 ·exact⟨⟨h.tab,h.rl,h.an,h.la,h.ti,h.lo,h.now,h.few,h.l,h.p⟩,.inl rfl⟩
def MI.open_{M:aG}(h:MI M):MI (nV M):=by
 unfold nV;split
 ·split
  ·rename_i h3;have:=h.lo;exact⟨⟨h.tab,h.rl,h.an,h.la,h.ti,by show 0<=0/\0<=M.mo/\M.mo<=10;omega,h.now,h.few,h.l,h.p⟩,.inr (.inl ⟨rfl,h3⟩)⟩
  split
  ·rename_i h5;exact⟨h.toMA.aAa,.inr (.inr h5.symm)⟩
  ·exact⟨⟨h.tab,h.rl,h.an,h.la,h.ti,h.lo,h.now,h.few,h.l,h.p⟩,.inr (.inr rfl)⟩
 ·exact h
def aYt(a:eZ rs=(0,-1))(d:rs.length<=60)(hp:1<=p/\p<=1000000)(f:1<=ti/\ti<=1000000)(b:0<=mo/\mo<=10):MI (BN rs st dy p ti mo):=by
 have c:(bY rs 0).1=1:=by
  obtain⟨_,h1,h2⟩:=Jv a;obtain⟨n,e⟩:=NH (now:=0) h2 (by rw[h1];exact VJ 0);unfold bY;rw[e,h1]
 exact⟨⟨a,d,hp,hp,f,⟨VJ 0,b.1,b.2⟩,VJ 0,Sv _,(λx g=>by cases g),(λx g=>by cases g)⟩,.inr (.inr c.symm)⟩
def bHx{M:aG}(a:M.L.length<=100):(dF M).1.length<=101:=by
 unfold dF;split
 ·have:=aBz (p:=(aV M).price) (M.L.length+1) ⟨[],M.L,(aV M).ak⟩;have e:(⟨[],M.L,(aV M).ak⟩:FS).fs.length=0:=rfl;show(qP _ (M.L.length+1) ⟨[],M.L,(aV M).ak⟩).fs.length<=101;omega
 ·exact Sv _
def uL(M M':aG):Prop:=M'.rs=M.rs/\M'.st=M.st/\M'.dy=M.dy/\M'.ti=M.ti/\M'.mo=M.mo
def bH0(M:aG):uL M (dF M).2:=by
 unfold dF;split<;>exact⟨rfl,rfl,rfl,rfl,rfl⟩
def bHz(M:aG):(dF M).2.now=M.now:=by unfold dF;split<;>rfl
def aJb{M:aG}(i:M.L.length<=100):(fK M).1.length<=101/\uL M (fK M).2/\(fK M).2.now<=M.now+1:=by
 have g:=bHx (M:={ M with now:=M.now+1 }) i;have f:uL M (dF { M with now:=M.now+1 }).2:=bH0 { M with now:=M.now+1 };have hn:(dF { M with now:=M.now+1 }).2.now=M.now+1:=bHz { M with now:=M.now+1 };have c:uL M M:=⟨rfl,rfl,rfl,rfl,rfl⟩;have a:uL M { M with now:=M.now+1 }:=⟨rfl,rfl,rfl,rfl,rfl⟩;unfold fK
 by_cases e:M.ph=7
 ·rw[RF e];exact⟨Sv _,c,by show M.now<=M.now+1;omega⟩
 rw[RD e,Pd];have b:(qY { M with now:=M.now+1 }).1.length<=101/\uL M (qY { M with now:=M.now+1 }).2/\(qY { M with now:=M.now+1 }).2.now<=M.now+1:=⟨g,f,by show(dF { M with now:=M.now+1 }).2.now<=M.now+1;omega⟩;split
 ·unfold lC
  by_cases d:M.ph=5
  ·rw[RF (show({ M with now:=M.now+1 }:aG).ph=5 from d),RF (show({ M with now:=M.now+1 }:aG).ph=5 from d)];exact⟨g,f,by show(dF { M with now:=M.now+1 }).2.now<=M.now+1;omega⟩
  ·rw[RD (show¬({ M with now:=M.now+1 }:aG).ph=5 from d),RD (show¬({ M with now:=M.now+1 }:aG).ph=5 from d)];exact⟨Sv _,a,VJ _⟩
 split
 ·exact⟨Sv _,a,VJ _⟩
 split
 ·unfold sK;split
  ·exact b
  split
  ·exact⟨Sv _,a,VJ _⟩
  ·exact⟨Sv _,a,VJ _⟩
 split
 ·unfold sF;split
  ·exact b
  split
  ·exact⟨Sv _,a,VJ _⟩
  ·exact⟨Sv _,a,VJ _⟩
 ·exact⟨Sv _,a,VJ _⟩
def Ny{M:aG}(a:M.L.length<=100):(jL M o).1.length<=101/\uL M (jL M o).2/\(jL M o).2.now=M.now:=by
 unfold jL;split
 ·unfold uD;split
  ·exact⟨Sv _,⟨rfl,rfl,rfl,rfl,rfl⟩,rfl⟩
  split
  ·exact⟨Sv _,⟨rfl,rfl,rfl,rfl,rfl⟩,rfl⟩
  ·unfold nC;refine⟨?_,?_,?_⟩
   ·have:=(MN (vT { M with I:=M.I++[o.id] }) (dG o) (aP (3 - (dG o).side) M.L) ⟨[],M.L,(dG o).ak,[]⟩).1;have h2:=ED (3 - (dG o).side) M.L;have e:(⟨[],M.L,(dG o).ak,[]⟩:MS).fs.length=0:=rfl;show(bZ { M with I:=M.I++[o.id] } (dG o)).1.fs.length<=101;unfold bZ;show(dH (vT { M with I:=M.I++[o.id] }) (dG o) (aP (3 - (dG o).side) M.L) ⟨[],M.L,(dG o).ak,[]⟩).1.fs.length<=101;omega
   ·dsimp only;split<;>exact⟨rfl,rfl,rfl,rfl,rfl⟩
   ·dsimp only;split<;>rfl
 ·exact⟨Sv _,⟨rfl,rfl,rfl,rfl,rfl⟩,rfl⟩
def aNu(M:aG)(id:Int):uL M (oU M id)/\(oU M id).now=M.now:=by
 unfold oU;split
 ·exact⟨⟨rfl,rfl,rfl,rfl,rfl⟩,rfl⟩
 split<;>exact⟨⟨rfl,rfl,rfl,rfl,rfl⟩,rfl⟩
def aVe(M:aG):uL M (oZ M)/\(oZ M).now=M.now:=by
 unfold oZ;split<;>exact⟨⟨rfl,rfl,rfl,rfl,rfl⟩,rfl⟩
def bA3(M:aG):uL M (nV M)/\(nV M).now=M.now:=by
 unfold nV;split
 ·split
  ·exact⟨⟨rfl,rfl,rfl,rfl,rfl⟩,rfl⟩
  split<;>exact⟨⟨rfl,rfl,rfl,rfl,rfl⟩,rfl⟩
 ·exact⟨⟨rfl,rfl,rfl,rfl,rfl⟩,rfl⟩
structure gP where
 ta:Option J_
 tc:Nat
 eb:Nat
 k:bC
def uS(x:gP)(H:aY):Array D_:=#[J x.ta H.rs.length x.tc,U G H.st,U G H.dy,U G H.pr,U G H.ti,U G H.mo,E (match H.aX with|some _=>A_ ⟨x.eb,0,B_⟩|none=>B_)]
structure bA(w:C_)(lo sb:Nat)(x:gP)(H:aY)(n:Nat):Prop where
 box:w.heap[sb]? = A_ (R (uS x H) 53 (0,0))
 slt:sb<lo/\lo<=w.heap.size
 rows:0<H.rs.length->∃tb,x.ta=A_ ⟨tb,0,B_⟩/\jW w tb 0 H.rs/\EU H.rs/\lo<=tb/\((∃M,H.aX=A_ M)->¬x.k.foot x.eb tb)/\∃cs f,w.heap[tb]? = A_ (R cs 109 f)
 eg:∀M,H.aX=A_ M->Eg w x.eb x.k M/\(MI M)/\(∀j,x.k.foot x.eb j->lo<=j)/\x.k.m<=302*n/\M.now<=(n:Int)
def jd(w:C_)(lo sb:Nat)(j:Nat):Prop:=j=sb\/(lo<=j/\∀c t f,t=5\/t=9->w.heap[j]?≠A_ (R c t f))
variable {M:aG} {x:gP} {H:aY}
def Eg.Lm{k:bC}(h:Eg w eb k M){j:Nat}(a:k.foot eb j):∀c t f,t=5\/t=9->w.heap[j]?≠A_ (R c t f):=λc r f l e=>by
 have row:∀{d et size n:Nat} {v:D_} {xs:List D_},w.ownsRow d et size v n xs->v.ownBlock=A_ j->(et≠5/\et≠9)->False:=fun {d et size n v xs} hr hv hne=>by
  rcases hr.2 with⟨e1,_⟩|⟨g,cap,o,e1,_,p,_⟩
  ·rw[e1]at hv;cases hv
  ·rw[e1]at hv;have e2:g=j:=by simpa[Value.ownBlock]using hv
   rw[<-e2,p]at e;injection e with e;injection e with _ i _;exact l.elim (λq=>hne.1 (i.trans q)) (λq=>hne.2 (i.trans q))
 have box:∀{b:Nat} {vs:Array D_} {t:RZ} {f':Nat×Nat},w.heap[b]? = A_ (R vs t f')->j=b->(t≠5/\t≠9)->False:=fun {b vs t f'} m hv hne=>by
  rw[<-hv,e]at m;injection m with m;injection m with _ i _;exact l.elim (λq=>hne.1 (i.symm.trans q)) (λq=>hne.2 (i.symm.trans q))
 rcases a with a|a|a|a|a
 ·exact box h.box a d7
 ·exact box h.bn a d7
 ·rcases a with a|a|a|a|a
  ·exact box h.bk.at_.box a d7
  ·rcases a with a|a|a
   ·exact box h.bk.at_.ar.box a d7
   ·exact row h.bk.at_.ar.slots a d7
   ·exact row h.bk.at_.ar.free a d7
  ·exact h.bk.at_.map.ne e a
  ·exact row h.bk.at_.row0 a d7
  ·exact row h.bk.at_.kr a d7
 ·exact row h.pk a d7
 ·exact h.tkn.ne e a
def bA.below(h:bA w lo sb x H n)(a:Sd w.heap.size w w'):bA w' lo sb x H n:=by
 refine⟨aL h.box a au,⟨h.slt.1,RV h.slt.2 a.size⟩,λh0=>?_,λM e=>?_⟩
 ·obtain⟨tb,h1,h2,h3,b,c,cs,f,d⟩:=h.rows h0;exact⟨tb,h1,h2.below a au,h3,b,c,cs,f,aL d a au⟩
 ·obtain⟨h1,h2⟩:=h.eg M e;exact⟨h1.below a,h2⟩
def bA.more{n':Nat}(h:bA w lo sb x H n)(hn:n<=n'):bA w lo sb x H n':=⟨h.box,h.slt,h.rows,λM a=>by
 obtain⟨h1,h2,h3,b,c⟩:=h.eg M a;exact⟨h1,h2,h3,o7,o7⟩⟩
def bA.ptr(h:bA w lo sb x H n):w.cell? ⟨sb,6,B_⟩=A_ (E (match H.aX with|some _=>A_ ⟨x.eb,0,B_⟩|none=>B_)):=aj (j:=6) h.box rfl
def bA.far(h:bA w lo sb x H n)(a:H.aX=A_ M):¬x.k.foot x.eb sb:=λe=>by
 have:=(h.eg M a).2.2.1 sb e;have:=h.slt.1;omega
def jd.of_below(a:Sd w.heap.size w w'):Out (jd w lo sb) w w':=Out.of_below a au
def bA.go{g:bC}{M':aG}(h:bA w lo sb x H n)(b:H.aX=A_ M)(a:aZ w w' x.eb x.k g M')(q:MI M')(s:g.m<=302*(n+1))(hn:M'.now<=(n+1:Nat)):
  bA w' lo sb { x with k:=g } { H with aX:=A_ M' } (n+1)/\Out (jd w lo sb) w w':=by
 obtain⟨h1,h2,h3,u,v⟩:=h.eg M b;have r:=h.far b;refine⟨⟨?_,⟨h.slt.1,RV h.slt.2 a.2.1.size⟩,λh0=>?_,λt e=>?_⟩,a.2.1.mono λj c=>RN ⟨h3 j c,h1.Lm c⟩⟩
 ·have:=aH h.box a.2.1 r;unfold uS at this⊢;rw[b]at this;exact this
 ·obtain⟨tb,e1,e2,l,o,p,cs,f,i⟩:=h.rows h0;have d:¬x.k.foot x.eb tb:=p ⟨M,b⟩;refine⟨tb,e1,og e2 a.2.1 d,l,o,λ_ e=>?_,cs,f,aH i a.2.1 d⟩;rcases a.2.2.1 tb e with e|e
  ·exact d e
  ·have:=lt_of_block i;omega
 ·cases e;refine⟨a.1,q,λj c=>?_,s,hn⟩;rcases a.2.2.1 j c with e|e
  ·exact h3 j e
  ·exact RV h.slt.2 e
def fZ(r:Int×List UInt8)(e:Ending):Prop:=
 (r.1=0/\e=Y (.string (aQ r.2)))\/(r.1≠0/\e=.panicked [{ v:=.iface 30 (U G r.1),recovered:=E_ }])
def jC(w w':C_)(lo sb n:Nat)(r:(Int×List UInt8)×aY)(e:Ending):Prop:=fZ r.1 e/\Out (jd w lo sb) w w'/\∃x',bA w' lo sb x' r.2 (n+1)
def aQh(a b:Int)(f:D_)(n:Nat)(w:C_)(hn:n<=1000000):
  Sj prog 63 #[.agg #[U G a,U G b,f],U G n] w λe w'=>e=Y (.bool (qQ a n))/\Sd w.heap.size w w':=by
 have g:=aM w (R #[U G a,U G b,f] 90);have d:Hid _:=g;clear g
 have i:(Int.tmod (n:Int) 2 == 0)=decide ((n:Int) % 2=0):=by
  rw[Int.tmod_eq_emod_of_nonneg o7];rfl
 by_cases h:a=-1
 ·have h1:=beq_iff_eq.2 h;have c:Hid (qQ a n=decide ((n:Int) % 2=0)):=by show _=_;unfold qQ;rw[RF h]
  clear h;go_enter func63,ntmps63;go_wp2_with fail;go_ret;exact⟨by rw[c.out];first|rfl|(rw[<-i]),d.out⟩
 ·have h1:=RG.2 h;have c:Hid (qQ a n=((n:Int) == a)):=by show _=_;unfold qQ;rw[RD h];rfl
  clear h;go_enter func63,ntmps63;go_wp2_with fail;go_ret;exact⟨by rw[c.out];rfl,d.out⟩
def aA3(lo sb n:Nat)(x:gP)(H:aY)(t:Int)(w:C_)(h:bA w lo sb x H n):
  Sj prog 65 #[E (A_ ⟨sb,0,B_⟩),U G t] w λe w'=>e=Y (.bool (kN t H))/\w'=w:=by
 have b:=h.ptr;clear h
 by_cases h1:t=1
 ·have e1:=beq_iff_eq.2 h1;have a:Hid (kN t H=H.aX.isNone):=by show _=_;unfold kN;rw[RF h1]
  clear h1;cases hm:H.aX with
  |none=>
   rw[hm]at b a;go_enter func65,ntmps65;go_wp2_with fail;go_ret;exact⟨by rw[a.out];rfl,rfl⟩
  |some M=>
   rw[hm]at b a;go_enter func65,ntmps65;go_wp2_with fail;go_ret;exact⟨by rw[a.out];rfl,rfl⟩
 ·have e1:=RG.2 h1
  by_cases h2:t=2
  ·have e2:=beq_iff_eq.2 h2;have a:Hid (kN t H=H.aX.isSome):=by show _=_;unfold kN;rw[RD h1,RF h2]
   clear h1 h2;cases hm:H.aX with
   |none=>
    rw[hm]at b a;go_enter func65,ntmps65;go_wp2_with fail;go_ret;exact⟨by rw[a.out];rfl,rfl⟩
   |some M=>
    rw[hm]at b a;go_enter func65,ntmps65;go_wp2_with fail;go_ret;exact⟨by rw[a.out];rfl,rfl⟩
  ·have e2:=RG.2 h2;have a:Hid (kN t H=G_):=by show _=_;unfold kN;rw[RD h1,RD h2]
   clear h1 h2 b;go_enter func65,ntmps65;go_wp2_with fail;go_ret;exact⟨by rw[a.out];rfl,rfl⟩
def aFr:∀(b:List ByteArray) (s:ByteArray),jv (b++[s])=match jv b with|none=>B_|some l=>match jK s with|none=>B_|some n=>A_ (l++[n])
 |[],s=>by
  show(match jK s with|none=>B_|some n=>_)=_;cases jK s<;>rfl
 |a::b,s=>by
  show(match jK a with|none=>B_|some n=>match jv (b++[s])with|none=>B_|some l=>A_ (n::l))=(match (match jK a with|none=>B_|some n=>match jv b with|none=>B_|some l=>A_ (n::l))with|none=>B_|some l=>match jK s with|none=>B_|some n=>A_ (l++[n]));rw[aFr b s];cases jK a with
  |none=>rfl
  |some n=>
   cases jv b with
   |none=>rfl
   |some l=>cases jK s<;>rfl
def Nf:∀(b:List ByteArray) {s:ByteArray},s∈b->jK s=B_->jv b=B_
 |[],_,h,_=>by cases h
 |a::b,s,h,hs=>by
  show(match jK a with|none=>B_|some n=>match jv b with|none=>B_|some l=>A_ (n::l))=B_;rcases SB.1 h with rfl|h
  ·rw[hs]
  ·rw[Nf b h hs];cases jK a<;>rfl
def BR:∀(b:List ByteArray) {l:List Int},jv b=A_ l->l.length=b.length
 |[],l,h=>by cases h;rfl
 |a::b,l,h=>by
  change (match jK a with|none=>B_|some n=>match jv b with|none=>B_|some l=>A_ (n::l))=A_ l at h
  cases ha:jK a with
  |none=>rw[ha]at h;cases h
  |some n=>
   rw[ha]at h;cases hw:jv b with
   |none=>rw[hw]at h;cases h
   |some l'=>
    rw[hw]at h;cases h;simp[BR b hw]
def aGf{l:List UInt8}{v:Int}(h:O_ 64 l=.ok v):-9223372036854775808<=v/\v<=9223372036854775807:=by
 unfold O_ at h;split at h
 ·cases h
 ·dsimp only at h;split at h
  ·cases h
  ·cases h
  ·split at h
   ·cases h
   ·split at h
    ·cases h
    ·rename_i u _ h1 h2;cases h;split
     ·rename_i hneg;have:¬2 ^ (64 - 1)<u:=λe=>h2 ⟨hneg,e⟩
      have a:2 ^ (64 - 1)=9223372036854775808:=d7;omega
     ·rename_i hneg;have:¬2 ^ (64 - 1)<=u:=λe=>h1 ⟨hneg,e⟩
      have a:2 ^ (64 - 1)=9223372036854775808:=d7;omega
def aZ5{v:Int}(h:jK s=A_ v):-9223372036854775808<=v/\v<=9223372036854775807:=by
 unfold jK at h;split at h
 ·rename_i v' hp;split at h
  ·cases h;exact aGf hp
  ·cases h
 ·cases h
def Ic:∀(c:List ByteArray) {l:List Int},jv c=A_ l->∀z∈l,-9223372036854775808<=z/\z<=9223372036854775807
 |[],l,h,z,b=>by cases h;cases b
 |a::c,l,h,z,b=>by
  change (match jK a with|none=>B_|some n=>match jv c with|none=>B_|some l=>A_ (n::l))=A_ l at h
  cases ha:jK a with
  |none=>rw[ha]at h;cases h
  |some n=>
   rw[ha]at h;cases hw:jv c with
   |none=>rw[hw]at h;cases h
   |some l'=>
    rw[hw]at h;cases h;rcases SB.1 b with rfl|b
    ·exact aZ5 ha
    ·exact Ic c hw z b
def qy(l:List Int)(n:Nat):List D_:=l.map (λz=>SX .i64 z)++Zx (n - l.length) (U G 0)
def aZ8{l:List Int}(h:l.length<n)(z:Int):(qy l n).set l.length (U G z)=qy (l++[z]) n:=by
 unfold qy;rw[show n - l.length=(n - (l++[z]).length)+1 by simp;omega,List.replicate_succ,List.set_append,RD s7];simp
def aZ7{l:List Int}(h:l.length<n):(qy l n)[l.length]? = A_ (U G 0):=by
 unfold qy;rw[List.getElem?_append_right s7];simp[List.getElem?_replicate];omega
def zS(l:List Int):List D_:=l.map (λz=>SX .i64 z)
def aZ6{l:List Int}:qy l l.length=zS l:=by simp[qy,zS]
def Qd(ws:List ByteArray)(w w':C_)(e:Ending):Prop:=
 (jv ws=B_/\e=.panicked [{ v:=.iface 30 (U G 3),recovered:=E_ }])\/
 ∃l v,jv ws=A_ l/\e=Y v/\w'.ownsRow w.heap.size 3 1 v l.length (zS l)
def aV2:(prog.info? 3).map (λi=>(i.zero,i.size,i.bytes))=A_ (A_ (U G 0),1,8):=k7
def aQp(a:Option J_)(cap:Nat)(c:List ByteArray)(w:C_)(hc:∀j s,c[j]? = A_ s->∃b o,a=A_ ⟨b,o,B_⟩/\w.cell? ⟨b,o+j,B_⟩=A_ (.string s))(hs:∀s∈c,s.size<=1000000)(hn:c.length<=100000)(hv:bE w)(hB:7<=w.heap.size):
  Sj prog 64 #[J a c.length cap] w λe w'=>Qd c w w' e/\Sd w.heap.size w w':=by
 obtain⟨i0,hi,O,P,Q⟩:=Vw aV2;have HC:=ah hc;have HS:=ah hs;have HV:=ah hv;have q1:∀(w:C_) (t:RZ) (p:D_),(binOp .neq 24 (.iface t p) .nilIface).run prog w=.ok (.bool G_) w:=λ_ _ _=>by rfl
 have q0:∀(w:C_),(binOp .neq 24 .nilIface .nilIface).run prog w=.ok (.bool E_) w:=λ_=>by rfl
 clear hc hs hv;go_enter func64,ntmps64;go_wp2_with (at_make;refine wpList_make_full _ rfl _ _ 99 rfl w.heap.size 3 i0 (U G 0) 1 underlying99 hi O P _ _ _ _ c.length rfl rfl (by go_num) (by go_num) (by rw[Q];omega) (by unfold maxLen;omega) au ?_;intro wt f M);have L:Sd w.heap.size w wt:=(RS _ _).grown M au (λ_ n=>by cases n);rw[show(SX .i64 0:D_).cells=#[U G 0] from rfl,Nat.mul_one,toList_madeCells_one,show Zx c.length (SX .i64 0)=qy [] c.length by simp[qy]]at f;have HO:Hid _:=f;have R:=ah L;clear f L M hi O P Q;go_wp2_with fail
 go_loopw [4,5,6,7,13] (λ_ _ _ _ u wr=>∃(k:Nat) (l:List Int),k<=c.length/\u=U G k/\jv (c.take k)=A_ l/\wr.ownsRow w.heap.size 3 1 (J (A_ ⟨w.heap.size,0,B_⟩) c.length c.length) c.length (qy l c.length)/\Sd w.heap.size w wr)
  (λ_ _ _ _ u _=>c.length - (intOf u).toNat)
 case atStart=>exact⟨0,[],Sv _,rfl,rfl,HO.out,R.out⟩
 case round=>
  obtain⟨k,l,hk,rfl,hl,q,hb⟩:=hrel;have g:=ah hb;have K:Hid _:=q;have T:=ah hl;clear q hb hl
  by_cases D:k<c.length
  ·obtain⟨s,m⟩:∃s,c[k]? = A_ s:=⟨c[k],List.getElem?_eq_getElem D⟩;have A:=ah m;obtain⟨b,o,rfl,c0⟩:=HC.out k s m;have c1:wr.cell? ⟨b,o+k,B_⟩=A_ (.string s):=(g.out.cell (p:=⟨b,o+k,B_⟩) (SN w _ c0)).trans c0;have a2:=HS.out s (WQ m);clear m c0;have B:=ah (HV.out.below g.out hB);go_wp2_with fail;refine(aQt s wr a2 B.out.syn B.out.ran).mono ?_;rintro e w2 ⟨hP,i⟩;have H:=ah i;have E:=ah (aJ g.out i);have x:Hid (w2.ownsRow w.heap.size 3 1 (J (A_ ⟨w.heap.size,0,B_⟩) c.length c.length) c.length (qy l c.length)):=jw K.out i au;clear i c1;rcases hP with⟨v,hp,rfl⟩|⟨N,z,t,p,rfl⟩
   ·have r:=aGf hp;have HP:=ah hp;clear hp;go_wp2_with fail;refine(aQi v w2 r.1 r.2 (B.out.tab.below H.out)).mono ?_;rintro e w3 ⟨rfl,C⟩;have F:=ah (aJ E.out C);have y:Hid (w3.ownsRow w.heap.size 3 1 (J (A_ ⟨w.heap.size,0,B_⟩) c.length c.length) c.length (qy l c.length)):=jw x.out C au;clear C;have d:=BR _ T.out;rw[Tq,Nat.min_eq_left hk]at d
    by_cases n:Wi v=s.data.toList
    ·have a1:((aQ (Wi v)).toList == s.toList)=G_:=by rw[ZU,ZU];exact beq_iff_eq.2 n
     have W:Hid (jK s=A_ v):=by
      show _=_;unfold jK;rw[HP.out];dsimp only;rw[RF n]
     have Y:Hid (jv (c.take (k+1))=A_ (l++[v])):=by
      show _=_;obtain⟨a0,e'⟩:=Uz.1 A.out;rw[SQ a0,e',aFr,T.out,W.out]
     have c3:w3.cell? ⟨w.heap.size,k,B_⟩=A_ (U G 0):=by
      rw[y.out.cellAt k o7,<-d];exact aZ7 o7
     have f3:=y.out.frozenAt k;have Z:Hid _:=(y.out.stored k (U G v)).1;have S:Hid (Sd w.heap.size w (w3.setCell ⟨w.heap.size,k,B_⟩ (U G v))):=F.out.setCell (p:=⟨w.heap.size,k,B_⟩) au _;have HE:Hid ((qy l c.length).set k (U G v)=qy (l++[v]) c.length):=by show _=_;rw[<-d];exact aZ8 o7 v
     clear n d;go_wp2_with fail;go_roundw
     case rel=>exact⟨k+1,l++[v],D,by go_num,Y.out,by rw[<-HE.out];exact Z.out,S.out⟩
     case measure=>first|(simp[intOf];omega)|(show c.length - (k+1)<c.length - k;omega)|omega
    ·have a1:((aQ (Wi v)).toList == s.toList)=E_:=by rw[ZU,ZU];exact RG.2 n
     have V:Hid (jv c=B_):=Nf c (WQ A.out) (by
      unfold jK;rw[HP.out];dsimp only;rw[RD n])
     clear n d;go_wp2_with fail;exact⟨rfl,RP ⟨V.out,rfl⟩,F.out⟩
   ·have V:Hid (jK s=B_):=by
     show _=_;unfold jK;split
     ·rename_i v hv;exact absurd hv (N v)
     ·rfl
    have X:=ah (Nf c (WQ A.out) V.out);clear N;go_wp2_with fail;exact⟨rfl,RP ⟨X.out,rfl⟩,E.out⟩
  ·obtain rfl:k=c.length:=o7;have I:Hid (jv c=A_ l):=by show _=_;have:=T.out;rwa[Vd]at this
   have d:=BR _ I.out
   have x:Hid (wr.ownsRow w.heap.size 3 1 (J (A_ ⟨w.heap.size,0,B_⟩) c.length c.length) l.length (zS l)):=by
    have:=K.out;rw[<-d,aZ6]at this;rw[<-d];exact this
   clear D d;go_wp2_with fail;go_ret;exact⟨RN ⟨l,_,I.out,rfl,x.out⟩,g.out⟩
def aMa(a b:List UInt8):(⟨a.toArray⟩:ByteArray)++aQ b=aQ (a++b):=by
 apply ByteArray.ext;rw[ByteArray.data_append];simp[aQ]
def aMc(a:List UInt8):(aQ a).size=a.length:=by simp[aQ,ByteArray.size]
def aQ7(n:Int)(w:C_)(hn:dN n)(d:lY w):
  Sj prog 12 #[.iface 30 (U G n)] w λe w'=>e=Y (.string (aQ (tJ n)))/\Sd w.heap.size w w':=by
 have f:∀(w:C_) (n:Int),(Instr.typeAssert (.iface 30 (U G n)) 20 30 G_).run prog w=.ok (.tuple #[U G n,.bool G_]) w:=λ_ _=>by kernel_rfl
 have b:=UR n hn.1 hn.2;have HE:Hid ((⟨#[101,114,114,111,114,32]⟩:ByteArray)++aQ (Wi n)=aQ (tJ n)):=aMa [101,114,114,111,114,32] (Wi n);have g:=aMc (Wi n);go_enter func12,ntmps12;go_wp2_with fail;refine(aA1 n w hn.1 hn.2 d).mono ?_;rintro e w1 ⟨rfl,a⟩;have c:Hid (Sd w.heap.size w w1):=a;clear a;go_wp2_with fail;go_ret;exact⟨by rw[<-HE.out];rfl,c.out⟩
def PX(n:Int)(e:Ending):Prop:=(n=0/\e=Y (.tuple #[]))\/(n≠0/\e=.panicked [{ v:=.iface 30 (U G n),recovered:=E_ }])
def aAy(c:D_)(n k:Int)(w:C_)(i:jD w)(h:AJ w c n k)(hn:c=.nilIface\/n≠0):
  Sj prog 73 #[c] w λe w'=>PX n e/\Sd w.heap.size w w':=by
 have m:∀(w:C_) (t:RZ) (p:D_),(binOp .neq 24 (.iface t p) .nilIface).run prog w=.ok (.bool G_) w:=λ_ _ _=>by rfl
 have l:∀(w:C_),(binOp .neq 24 .nilIface .nilIface).run prog w=.ok (.bool E_) w:=λ_=>by rfl
 have j:∀(w:C_) (n:Int),(Instr.makeInterface 30 (U G n)).run prog w=.ok (.iface 30 (U G n)) w:=λ_ _=>by rfl
 have H:=ah h;have g:=ah i;clear i;rcases h with⟨rfl,rfl,rfl⟩|⟨rfl,rfl⟩|⟨b,o,rfl,h1,h2⟩
 ·go_enter func73,ntmps73;go_wp2_with fail
  first
   |exact⟨RP ⟨rfl,rfl⟩,RS _ _⟩
   |(go_end0;exact⟨RP ⟨rfl,rfl⟩,RS _ _⟩)
   |(go_ret;exact⟨RP ⟨rfl,rfl⟩,RS _ _⟩)
 ·have f:Hid (n≠0):=hn.resolve_left (λe=>by cases e);clear hn;go_enter func73,ntmps73;go_wp2_with fail;refine(aI9 _ n (-1) w g.out H.out).mono ?_;rintro e w1 ⟨rfl,a⟩;have d:=ah a;clear a;go_wp2_with fail;exact⟨rfl,RN ⟨f.out,rfl⟩,d.out⟩
 ·have f:Hid (n≠0):=hn.resolve_left (λe=>by cases e);clear hn h1 h2;go_enter func73,ntmps73;go_wp2_with fail;refine(aI9 _ n k w g.out H.out).mono ?_;rintro e w1 ⟨rfl,a⟩;have d:=ah a;clear a;go_wp2_with fail;exact⟨rfl,RN ⟨f.out,rfl⟩,d.out⟩
def xI(w:C_)(a:Option J_)(l:List dx):Prop:=∀k,k<l.length->∃b off,a=A_ ⟨b,off,B_⟩/\w.cell? ⟨b,off+k*4,B_⟩=A_ (U G (lu l k).iC)/\w.cell? ⟨b,off+k*4+1,B_⟩=A_ (U G (lu l k).iK)/\w.cell? ⟨b,off+k*4+2,B_⟩=A_ (U G (lu l k).price)/\w.cell? ⟨b,off+k*4+3,B_⟩=A_ (U G (lu l k).ak)
def xI.pI{b:Nat}{l:List dx}(h:w.ownsRow b 164 4 v l.length (fV l)):∃a cap,v=J a l.length cap/\xI w a l:=by
 obtain⟨a,cap,rfl,_,_⟩:=lJ h;refine⟨a,cap,rfl,λk hk=>?_⟩;obtain⟨g,c,e,_,_⟩:=h.form o7;simp only[Value.slice.injEq,true_and]at e;obtain⟨rfl,rfl⟩:=e;obtain⟨h1,h2,h3,d⟩:=aTf hk;exact⟨g,0,rfl,by simpa using(h.cellAt _ o7).trans h1,by simpa using(h.cellAt _ o7).trans h2,by simpa using(h.cellAt _ o7).trans h3,by simpa using(h.cellAt _ o7).trans d⟩
def iQ{p:J_}(a:Sd w.heap.size w w')(h:w.cell? p=A_ v):w'.cell? p=A_ v:=(a.cell (SN w _ h)).trans h
def aTd{l:List dx}{k:Nat}(h:k<l.length):lu l k∈l:=by
 have:lu l k=l[k]:=by simp[lu,h]
 rw[this];exact List.getElem_mem h
def uz(xs:List (List UInt8)):List D_:=xs.map (λx=>Zb (aQ x))
def bGs{a g cap:Nat}{xs:List (List UInt8)}(h:w.ownsRow a 9 1 (J (A_ ⟨g,0,B_⟩) xs.length cap) xs.length (uz xs)):JZ w g 0 xs:=λj x b=>by
 have c:j<xs.length:=(Uz.1 b).1;have:=h.cellAt j o7;rw[Vz,this];simp[uz,b]
def aBx{f:dx}(h:Bu f):(jI f).length<=88:=by
 have:=uX (m:=21) ([f.iC,f.iK,f.price,f.ak].map Wi) [32] (λx b=>by
  obtain⟨z,a,rfl⟩:=Ti.1 b;simp only[SB,Ud,or_false]at a;rcases a with rfl|rfl|rfl|rfl
  ·exact UR _ h.1.1 h.1.2
  ·exact UR _ h.2.1.1 h.2.1.2
  ·exact UR _ h.2.2.1.1 h.2.2.1.2
  ·exact UR _ h.2.2.2.1 h.2.2.2.2)
 simpa[jI,lQ]using this
def BL(w:C_)(l:List Int)(t:RZ):∀j z,l[j]? = A_ z->(w.alloc (R (l.map (λz=>SX .i64 z)).toArray t)).cell? ⟨w.heap.size,0+j,B_⟩=A_ (U G z):=λj z a=>by
 have h:=RU w (R (l.map (λz=>SX .i64 z)).toArray t);rw[Vz];exact aj h (by simp[a])
def aA5(t:List UInt8)(a:Option J_)(cap:Nat)(fs:List dx)(w:C_)(K:xI w a fs)(hi:∀f∈fs,Bu f)(hn:fs.length<=1000)(P:t.length<=1000)(ht:lY w):
  Sj prog 77 #[.string (aQ t),J a fs.length cap] w λe w'=>e=Y (.string (aQ (yY t fs)))/\Sd w.heap.size w w':=by
 obtain⟨i0,L,S,T,V⟩:=Vw Mg;have HF:=ah K;have X:=ah hi;have HT:=ah ht;clear K hi ht;go_enter func77,ntmps77;go_upto_region 2 with fail;have ho:(w.alloc (R #[.string (aQ t)] 9)).ownsRow w.heap.size 9 1 (J (A_ ⟨w.heap.size,0,B_⟩) 1 1) 1 (uz [t]):=World.ownsRow_lit w #[.string (aQ t)] 1 au (by unfold maxLen;omega) rfl;have C:=aM w (R #[.string (aQ t)] 9);generalize w.alloc (R #[.string (aQ t)] 9)=w1 at ho C⊢;have HO:Hid _:=ho;have HB:=ah C;clear ho C;go_wp2_with fail
 go_loopw [5,7,12] (λu5 _ u wr=>∃k:Nat,k<=fs.length/\u=U G k/\wr.ownsRow w.heap.size 9 1 u5 (k+1) (uz (t::(fs.take k).map jI))/\Sd w.heap.size w wr)
  (λ_ _ u _=>fs.length - (intOf u).toNat)
 case atStart=>exact⟨0,Sv _,rfl,HO.out,HB.out⟩
 case round=>
  obtain⟨k,hk,rfl,p,C⟩:=hrel;have c:=ah C;obtain⟨g,vc,rfl⟩:=ownsRow_succ p;have D:Hid _:=p;clear p C
  by_cases l:k<fs.length
  ·obtain⟨b,off,rfl,Z,c1,c2,c3⟩:=HF.out k l;have d0:=iQ c.out Z;have d1:=iQ c.out c1;have d2:=iQ c.out c2;have d3:=iQ c.out c3;have n:Hid (Bu (lu fs k)):=X.out _ (aTd l)
   have H:Hid ((fs.take (k+1)).map jI=(fs.take k).map jI++[jI (lu fs k)]):=by
    show _=_;have e:lu fs k=fs[k]:=by simp[lu,l]
    rw[SQ l,List.map_append,e];rfl
   clear Z c1 c2 c3;generalize lu fs k=f at d0 d1 d2 d3 n H;go_upto_region 5 with fail;have A:=RU wr (R #[U G f.iC,U G f.iK,U G f.price,U G f.ak] 164);have r:=aM wr (R #[U G f.iC,U G f.iK,U G f.price,U G f.ak] 164);have o:Hid ((wr.alloc (R #[U G f.iC,U G f.iK,U G f.price,U G f.ak] 164)).ownsRow w.heap.size 9 1 (J (A_ ⟨g,0,B_⟩) (k+1) vc) (k+1) (uz (t::(fs.take k).map jI))):=jw D.out r au;have y:=ah (aJ c.out r);generalize wr.alloc (R #[U G f.iC,U G f.iK,U G f.price,U G f.ak] 164)=W at A r o y⊢;generalize wr.heap.size=xb at A⊢;have y0:=aj (j:=0) A rfl;have y1:=aj (j:=1) A rfl;have y2:=aj (j:=2) A rfl;have y3:=aj (j:=3) A rfl;clear A r d0 d1 d2 d3;go_wp2_with fail;have s:=aM W (R #[U G f.iC,U G f.iK,U G f.price,U G f.ak] 3)
   refine(Bp W.heap.size 0 4 [f.iC,f.iK,f.price,f.ak] _ (BL W [f.iC,f.iK,f.price,f.ak] 3) (λz hz=>by
    simp only[SB,Ud,or_false]at hz;rcases hz with rfl|rfl|rfl|rfl
    ·exact n.out.1
    ·exact n.out.2.1
    ·exact n.out.2.2.1
    ·exact n.out.2.2.2) s7 s7 ((HT.out.below y.out).below s)).mono ?_
   rintro e w3 ⟨rfl,i⟩;have d:=ah (aJ y.out (aJ s i));have E:Hid (w3.ownsRow w.heap.size 9 1 (J (A_ ⟨g,0,B_⟩) (k+1) vc) (k+1) (uz (t::(fs.take k).map jI))):=jw o.out (aJ s i) au;clear s i y0 y1 y2 y3;go_wp2_with (at_builtin;refine wpList_append_own_at _ rfl _ _ 22 rfl w.heap.size 9 i0 (.string ⟨#[]⟩) 1 16 underlying22 L S T V rfl d7 _ (k+1) (uz (t::(fs.take k).map jI)) rfl (E.out.alloc _) ⟨w3.heap.size,0,B_⟩ 1 1 [.string (aQ (lQ [f.iC,f.iK,f.price,f.ak]))] rfl rfl (World.news_of_block (cs:=#[.string (aQ (lQ [f.iC,f.iK,f.price,f.ak]))]) (t:=9) (fr:=(0,0)) (RU w3 _)) (by simp[Vk]) (by unfold maxLen;omega) o7 (by have:=d.out.size;simp;omega) ?_;intro v' w6 B v _ _);go_roundw
   case rel=>
    refine⟨k+1,l,by go_num,?_,(d.out.alloc d.out.size _).grown v (by have:=d.out.size;simp;omega) (λq hq=>(E.out.lt q hq).1)⟩;rw[H.out];have:uz (t::((fs.take k).map jI++[jI f]))=uz (t::(fs.take k).map jI)++[.string (aQ (lQ [f.iC,f.iK,f.price,f.ak]))]:=by simp[uz,jI]
    rw[this];exact B
   case measure=>first|(simp[intOf];omega)|(show fs.length - (k+1)<fs.length - k;omega)|omega
  ·obtain rfl:k=fs.length:=o7
   have o:Hid (wr.ownsRow w.heap.size 9 1 (J (A_ ⟨g,0,B_⟩) (t::fs.map jI).length vc) (t::fs.map jI).length (uz (t::fs.map jI))):=by
    have:=D.out;rw[Vd]at this;rw[SC,TL];exact this
   have F:=bGs o.out
   have I:(t::fs.map jI).length<=vc:=by
    rcases o.out.2 with⟨e,_⟩|⟨g',a0,a1,e,_,_,O,_⟩
    ·cases e
    ·simp only[Value.slice.injEq]at e;rw[e.2.2];exact O
   have N:(Yt (t::fs.map jI) [44,32]).length<=100000000:=by
    have:=uX (m:=1000) (t::fs.map jI) [44,32] (λx Q=>by
     rcases SB.1 Q with rfl|Q
     ·exact P
     ·obtain⟨f,K,rfl⟩:=Ti.1 Q;have:=aBx (X.out f K);omega)
    simp at this;omega
   have M:=KW g 0 vc (t::fs.map jI) [44,32] wr F s7 (by simp;omega) I N;rw[SC,TL]at M;clear l F;go_wp2_with fail;refine M.mono ?_;rintro e w3 ⟨rfl,i⟩;have d:=ah (aJ c.out i);clear i M;go_wp2_with fail;go_ret;exact⟨rfl,d.out⟩
def aF5(h:yK o):(qz o).length<=88:=by
 have:=uX (m:=21) ([o.id,o.kind,o.price,o.ak].map Wi) [32] (λx b=>by
  obtain⟨z,a,rfl⟩:=Ti.1 b;simp only[SB,Ud,or_false]at a;rcases a with rfl|rfl|rfl|rfl
  ·exact UR _ h.1.1 h.1.2
  ·exact UR _ h.2.1.1 h.2.1.2
  ·exact UR _ h.2.2.1.1 h.2.2.1.2
  ·exact UR _ h.2.2.2.1 h.2.2.2.2)
 simpa[qz,lQ]using this
def aA2(a:Option J_)(cap:Nat)(l:List Ord)(w:C_)(hl:jV w a l)(hi:∀o∈l,yK o)(hn:l.length<=1000)(ht:lY w):
  Sj prog 86 #[J a l.length cap] w λe w'=>e=Y (.string (aQ (yC l)))/\Sd w.heap.size w w':=by
 obtain⟨i0,K,M,N,O⟩:=Vw Mg;have HL:=ah hl;have V:=ah hi;have HT:=ah ht;clear hl hi ht;go_enter func86,ntmps86;go_wp2_with (at_make;refine wpList_make_full _ rfl _ _ 22 rfl w.heap.size 9 i0 (.string ⟨#[]⟩) 1 underlying22 K M N _ _ _ _ l.length rfl rfl (by go_num) (by go_num) (by rw[O];omega) (by unfold maxLen;omega) au ?_;intro wt g I);have H:Sd w.heap.size w wt:=(RS _ _).grown I au (λ_ hq=>by cases hq);rw[show(Zb ⟨#[]⟩:D_).cells=#[.string ⟨#[]⟩] from rfl,Nat.mul_one,toList_madeCells_one,<-aKh qz l]at g;have HO:Hid _:=g;have HB:=ah H;clear g H I K M N O;go_wp2_with fail
 go_loopw [4,5,11] (λ_ _ u wr=>∃k:Nat,k<=l.length/\u=U G k/\wr.ownsRow w.heap.size 9 1 (J (A_ ⟨w.heap.size,0,B_⟩) l.length l.length) l.length (lW qz l k)/\Sd w.heap.size w wr)
  (λ_ _ u _=>l.length - (intOf u).toNat)
 case atStart=>exact⟨0,Sv _,rfl,HO.out,HB.out⟩
 case round=>
  obtain⟨k,hk,rfl,t,hb⟩:=hrel;have d:=ah hb;have D:Hid _:=t;clear t hb
  by_cases i:k<l.length
  ·obtain⟨b,off,rfl,X,Z,S,c3,c4⟩:=HL.out k i;have d0:=iQ d.out X;have d1:=iQ d.out Z;have d2:=iQ d.out S;have d3:=iQ d.out c3;have d4:=iQ d.out c4
   have Q:Hid (l[k]? = A_ (aO l k)):=by
    show _=_;simp[aO,i]
   have q:Hid (yK (aO l k)):=V.out _ (WQ Q.out);clear X Z S c3 c4;generalize aO l k=o at d0 d1 d2 d3 d4 q Q;go_upto_region 5 with fail;have B:=RU wr (R #[U G o.id,U G o.side,U G o.kind,U G o.price,U G o.ak] 155);have r:=aM wr (R #[U G o.id,U G o.side,U G o.kind,U G o.price,U G o.ak] 155);have E:Hid ((wr.alloc (R #[U G o.id,U G o.side,U G o.kind,U G o.price,U G o.ak] 155)).ownsRow w.heap.size 9 1 (J (A_ ⟨w.heap.size,0,B_⟩) l.length l.length) l.length (lW qz l k)):=jw D.out r au;have y:=ah (aJ d.out r);generalize wr.alloc (R #[U G o.id,U G o.side,U G o.kind,U G o.price,U G o.ak] 155)=W at B r E y⊢;generalize wr.heap.size=xb at B⊢;have y0:=aj (j:=0) B rfl;have y2:=aj (j:=2) B rfl;have y3:=aj (j:=3) B rfl;have y4:=aj (j:=4) B rfl;clear B r d0 d1 d2 d3 d4;go_wp2_with fail;have s:=aM W (R #[U G o.id,U G o.kind,U G o.price,U G o.ak] 3)
   refine(Bp W.heap.size 0 4 [o.id,o.kind,o.price,o.ak] _ (BL W [o.id,o.kind,o.price,o.ak] 3) (λz hz=>by
    simp only[SB,Ud,or_false]at hz;rcases hz with rfl|rfl|rfl|rfl
    ·exact q.out.1
    ·exact q.out.2.1
    ·exact q.out.2.2.1
    ·exact q.out.2.2.2) s7 s7 ((HT.out.below y.out).below s)).mono ?_
   rintro e w3 ⟨rfl,c⟩;have n:=ah (aJ y.out (aJ s c));have A:Hid (w3.ownsRow w.heap.size 9 1 (J (A_ ⟨w.heap.size,0,B_⟩) l.length l.length) l.length (lW qz l k)):=jw E.out (aJ s c) au;obtain⟨v,hv,_⟩:=aKg (f:=qz) hk i;have S:w3.cell? ⟨w.heap.size,k,B_⟩=A_ v:=by rw[A.out.cellAt k o7];exact hv
   have f2:=A.out.frozenAt k;have HS:Hid _:=(A.out.stored k (.string (aQ (lQ [o.id,o.kind,o.price,o.ak])))).1;have P:Hid (Sd w.heap.size w (w3.setCell ⟨w.heap.size,k,B_⟩ (.string (aQ (lQ [o.id,o.kind,o.price,o.ak]))))):=n.out.setCell (p:=⟨w.heap.size,k,B_⟩) au _;have HE:=ah (aKi (f:=qz) Q.out);clear s c y0 y2 y3 y4 hv;go_wp2_with fail;go_roundw
   case rel=>exact⟨k+1,i,by go_num,by rw[<-HE.out];exact HS.out,P.out⟩
   case measure=>first|(simp[intOf];omega)|(show l.length - (k+1)<l.length - k;omega)|omega
  ·obtain rfl:k=l.length:=o7
   by_cases h0:l.length=0
   ·have L:=List.length_eq_zero_iff.1 h0;have C:=aQl (A_ ⟨w.heap.size,0,B_⟩) l.length (aQ [44,32]) wr;rw[h0]at C;have HE:Hid (yC l=[]):=by show _=_;rw[L];rfl
    have e0:(l.length:Int)=0:=o7;clear i L;go_wp2_with fail;rw[h0];refine C.mono ?_;rintro e w3 ⟨rfl,c⟩;have n:=ah (aJ d.out c);clear c C;go_wp2_with fail;go_ret;exact⟨by rw[HE.out];rfl,n.out⟩
   ·have F:=aKj D.out
    have T:(Yt (l.map qz) [44,32]).length<=100000000:=by
     have:=uX (m:=88) (l.map qz) [44,32] (λx hx=>by
      obtain⟨o,ho,rfl⟩:=Ti.1 hx;exact aF5 (V.out o ho))
     simp at this;omega
    have C:=KW w.heap.size 0 l.length (l.map qz) [44,32] wr F (by simp;omega) (by simp;omega) s7 T;rw[TL]at C;clear i F;go_wp2_with fail;refine C.mono ?_;rintro e w3 ⟨rfl,c⟩;have n:=ah (aJ d.out c);clear c C;go_wp2_with fail;go_ret;exact⟨rfl,n.out⟩
def oF(P:TB)(md:XW)(ops:Array Oper)(Q:Exit->Act->C_->Prop)(S:Nat->C_->Prop)(L:Nat->Nat->Bool):Nat->Array Bool->Act->C_->Prop
 |0,listed,a,w=>Tx md ops listed=[]/\Q .normal a w
 |fuel+1,listed,a,w=>(Tx md ops listed=[]->Q .normal a w)/\∀i∈Tx md ops listed,wpOp P ops Q i (λa' w'=>(∀n,L n i=E_->S n w->S n w')/\oF P md ops Q S L fuel (listed.setIfInBounds i G_) a' w') a w
def aKf:∀(b:Nat) (listed:Array Bool) (a:Act) (w:C_),oF P md ops Q S L b listed a w->wpAny P md ops Q b listed a w
 |0,_,_,_,h=>h
 |b+1,_,_,_,h=>⟨h.1,λi hi=>wpOp_mono (λa' w' c=>aKf b _ a' w' c.2) (h.2 i hi)⟩
def aKd{x:Oper}{D:C_->Prop}(hi:ops[i]? = A_ x)(p:∀(j:Nat) (o:Oper) cs b,ops[j]? = A_ o->o.op≠.select cs b)(N:∀c a w,Q (.panic c) (a.put x.dst v) w->Q (.panic c) a w)(M:∀(d:Array Bool) (j:Nat) (w w':C_),Down md ops d->d.getD i G_=E_->j∈Tx md ops d->(∀n,L n j=E_->S n w->S n w')->D w->D w'):
  ∀(f:Nat) (d:Array Bool) (a:Act) (w:C_),
   (∀j t,ops[j]? = A_ t->j≠i->d.getD j G_=E_->(∀e∈t.after,Yw md e=G_->e.on≠i)->x.apart ops t=G_)->Down md ops d->
   i∈Tx md ops d->YieldsIf P ops D x v a->D w->oF P md ops Q S L f (d.setIfInBounds i G_) (a.put x.dst v) w->oF P md ops Q S L (f+1) d a w:=by
 intro f
 induction f with
 |zero=>
  intro d a w _ _ r E C H;refine⟨λh=>(by rw[h]at r;cases r),λj u=>?_⟩
  by_cases g:j=i
  ·subst g;exact E.wpOp hi C ⟨λ_ _ h=>h,H⟩
  ·have:=ready_mono u g;rw[H.1]at this;cases this
 |succ f ih=>
  intro d a w l K r E C H;refine⟨λh=>(by rw[h]at r;cases r),λj u=>?_⟩
  by_cases g:j=i
  ·subst g;exact E.wpOp hi C ⟨λ_ _ h=>h,H⟩
  obtain⟨m,t,q,y⟩:=mem_ready.1 u;have s:d.getD i G_=E_:=(mem_ready.1 r).1
  have B:∀e∈t.after,Yw md e=G_->e.on≠i:=λe R O G=>by
   have h1:=y e R O;rw[G]at h1;rcases Us i d.size with F|F
   ·simp[F]at s h1;rw[s]at h1;cases h1
   ·simp[Te F]at h1
  have h2:=wpOp_putIf q (l j t q g m B) (λcs b=>p i x cs b hi) (λcs b=>p j t cs b q) N E (H.2 j (ready_mono u g))
  refine wpOp_mono (λa' w' h3=>⟨h3.2.1,ih (d.setIfInBounds j G_) a' w' (λk ok hk I A J=>l k ok hk I (by
   by_cases z:j=k
   ·subst z;exact m
   ·rw[getD_set_ne G_ z]at A;exact A) J) (K.more u) (ready_mono r (Ne.symm g)) h3.1 (M d j w w' K s u h3.2.1 C) ?_⟩) h2
  rw[Array.setIfInBounds_comm _ _ g];exact h3.2.2
def bI0(n:Nat){f:Oper}(hi:ops[i]? = A_ f)(x:Zf ops=G_)(r:Region.free md ops b i=G_)(u:(Tx md ops b).contains i=G_)(t:BG md ops (L n) i=G_)(q:zG md ops b=G_)(o:∀c a w,Q (.panic c) (a.put f.dst v) w->Q (.panic c) a w)(y:Vv f (yielded ops a.tmps)=G_)(z:∀w,S n w->(XQ a.eval f).run P w=.ok (.value v) w)(p:S n w)(h:oF P md ops Q S L d (b.setIfInBounds i G_) (a.put f.dst v) w):oF P md ops Q S L (d+1) b a w:=
 aKd (D:=S n) hi (Region.noSelect_spec x) o (λe j w w' l m s hk k=>hk n (aD1 t l (by
   rcases Us i e.size with g|g
   ·simpa[g]using m
   ·simp[Te g]) s) k) d b a w (Region.free_spec hi r) (KV q) (by simpa using u) (RP ⟨y,z⟩) p h
def dY{P:TB}{ops:Array Oper}{Q:Exit->Act->C_->Prop}{md:XW}{S:Nat->C_->Prop}{L:Nat->Nat->Bool}(n i:Nat)(g:S n w)(h:oF P md ops Q S L d (b.setIfInBounds i G_) (a.put oi.dst v) w)(hi:ops[i]? = A_ oi:=by exact rfl)(k:∀w,S n w->(XQ a.eval oi).run P w=.ok (.value v) w:=by(intro w e;(try simp only[lateS_zero]at e);(try dsimp only at e);go_simp;try rfl))(hk:(Zf ops&& Region.free md ops b i&& (Tx md ops b).contains i&& BG md ops (L n) i&& zG md ops b)=G_:=by kernel_rfl)(f:∀c a w,Q (.panic c) (a.put oi.dst v) w->Q (.panic c) a w:=by exact λ_ _ _ h=>h)(j:Vv oi (yielded ops a.tmps)=G_:=by rfl):oF P md ops Q S L (d+1) b a w:=by
 simp only[SV]at hk;exact bI0 n hi hk.1.1.1.1 hk.1.1.1.2 hk.1.1.2 hk.1.2 hk.2 f j k g h
def bIz{e:Oper}(hi:ops[i]? = A_ e)(l:Zf ops=G_)(j:Region.free md ops b i=G_)(k:(Tx md ops b).contains i=G_)(g:zG md ops b=G_)(f:∀c a w,Q (.panic c) (a.put e.dst v) w->Q (.panic c) a w)(m:Vv e (yielded ops a.tmps)=G_)(n:∀w,(XQ a.eval e).run P w=.ok (.value v) w)(h:oF P md ops Q S L d (b.setIfInBounds i G_) (a.put e.dst v) w):oF P md ops Q S L (d+1) b a w:=
 aKd (D:=λ_=>True) hi (Region.noSelect_spec l) f (λ_ _ _ _ _ _ _ _ _=>trivial) d b a w (Region.free_spec hi j) (KV g) (by simpa using k) (RP ⟨m,λw _=>n w⟩) trivial h
def jT{P:TB}{ops:Array Oper}{Q:Exit->Act->C_->Prop}{md:XW}{S:Nat->C_->Prop}{L:Nat->Nat->Bool}(i:Nat)(h:oF P md ops Q S L d (b.setIfInBounds i G_) (a.put oi.dst v) w)(hi:ops[i]? = A_ oi:=by exact rfl)(g:∀w,(XQ a.eval oi).run P w=.ok (.value v) w:=by(intro w;go_simp;try rfl))(hk:(Zf ops&& Region.free md ops b i&& (Tx md ops b).contains i&& zG md ops b)=G_:=by kernel_rfl)(e:∀c a w,Q (.panic c) (a.put oi.dst v) w->Q (.panic c) a w:=by exact λ_ _ _ h=>h)(f:Vv oi (yielded ops a.tmps)=G_:=by rfl):oF P md ops Q S L (d+1) b a w:=by
 simp only[SV]at hk;exact bIz hi hk.1.1.1 hk.1.1.2 hk.1.2 hk.2 e f g h
def EZ{o:Oper}{c:Nat}(f:Tx md ops b=[i])(ho:ops[i]? = A_ o)(h:∀d:Act->C_->Prop,Shut (∀a w',(∀n,L n i=E_->S n w->S n w')->oF P md ops Q S L c (b.setIfInBounds i G_) a w'->d a w')->if Vv o (yielded ops a.tmps)=G_ then Oper.wp P o a w d Q else d (a.put o.dst undef) w):oF P md ops Q S L (c+1) b a w:=
 ⟨λh0=>(by rw[f]at h0;cases h0),λj e=>by
  rw[f]at e;rcases SB.1 e with rfl|e
  ·exact wpOp_step ho (λd g=>h d (λa w' k l=>g a w' ⟨k,l⟩))
  ·cases e⟩
def EY(c:Tx md ops b=[])(h:Q .normal a w):∀fuel,oF P md ops Q S L fuel b a w
 |0=>⟨c,h⟩
 |_+1=>⟨λ_=>h,by rw[c];simp⟩
def JK{id:Nat}(S:Nat->C_->Prop)(L:Nat->Nat->Bool)(c:P.follows .mixedOrders=G_)(b:∀n,S n w.drew)(h:(∀n,S n w.drew)->oF P .any ops Q S L ops.size (UJ ops.size E_) a w.drew):(Code.region id ops G_).wp P Q a w:=
 wp_region_any c (aKf _ _ _ _ (h b))
structure qH(w:C_)(sb:Nat)(la:Option J_)(l:List Int):Prop where
 cells:∀k,k<l.length->∃g,la=A_ ⟨g,0,B_⟩/\¬g=sb/\w.cell? ⟨g,k,B_⟩=A_ (U G (nI l k))
 nums:∀k,dN (nI l k)
def bA.stay(h:bA w lo sb x H n)(a:Sd w.heap.size w w'){e:Ending}(b:fZ r e):jC w w' lo sb n (r,H) e:=
 ⟨b,jd.of_below a,x,(h.below a).more (Nat.le_succ n)⟩
def fZ.yes(h:v=.string (aQ t)):fZ (0,t) (Y v):=RP ⟨rfl,by rw[h]⟩
def fZ.no(h:m≠0):fZ (mJ m t) (.panicked [{ v:=.iface 30 (U G m),recovered:=E_ }]):=by
 unfold mJ;rw[RD h];exact RN ⟨h,rfl⟩
def fZ.ok(h:m=0)(hv:v=.string (aQ t)):fZ (mJ m t) (Y v):=by
 unfold mJ;rw[RF h,hv];exact RP ⟨rfl,rfl⟩
variable {l:List Int} {k:Nat}
def bA.told(h:bA w lo sb x H n){H':aY}(ho:Out (λj=>j=sb) w w')(a:w'.heap[sb]? = A_ (R (uS x H') 53 (0,0)))(l:H'.rs=H.rs)(b:H'.aX=B_):
  bA w' lo sb x H' (n+1)/\Out (jd w lo sb) w w':=by
 refine⟨⟨a,⟨h.slt.1,RV h.slt.2 ho.size⟩,λh0=>?_,λM e=>by rw[b]at e;cases e⟩,ho.mono λj k=>RP k⟩;rw[l]at h0⊢;obtain⟨tb,e1,e2,d,g,m,cs,f,i⟩:=h.rows h0;have c:¬tb=sb:=λe=>by have:=h.slt.1;omega
 exact⟨tb,e1,og e2 ho c,d,g,λ⟨M,e⟩=>(by rw[b]at e;cases e),cs,f,aH i ho c⟩
def aQk(la:Option J_)(cl:Nat)(l:List Int)(lo sb n:Nat)(x:gP)(H:aY)(w:C_)(h:bA w lo sb x H n):
  Sj prog 55 #[E (A_ ⟨sb,0,B_⟩),J la l.length cl] w λe w'=>jC w w' lo sb n (bq 17 l H) e:=by
 have a:=ah h;clear h;go_enter func55,ntmps55;go_wp2_with fail;go_ret;exact a.out.stay (RS _ _) (fZ.yes rfl)
def aQc(la:Option J_)(cl:Nat)(l:List Int)(lo sb n:Nat)(x:gP)(H:aY)(w:C_)(h:bA w lo sb x H n):
  Sj prog 54 #[E (A_ ⟨sb,0,B_⟩),J la l.length cl] w λe w'=>jC w w' lo sb n (bq 16 l H) e:=by
 have a:=ah h;have f:=aj (j:=0) h.box rfl;have g:=aj (j:=1) h.box rfl;have i:=aj (j:=2) h.box rfl;have k:=aj (j:=3) h.box rfl;have c4:=aj (j:=4) h.box rfl;have m:=aj (j:=5) h.box rfl;have o:=aj (j:=6) h.box rfl;have p:=aI (j:=0) h.box;have q:=aI (j:=1) h.box;have r:=aI (j:=2) h.box;have s:=aI (j:=3) h.box;have t:=aI (j:=4) h.box;have u:=aI (j:=5) h.box;have v:=aI (j:=6) h.box;have c:Hid _:=bg (j:=6) (E B_) (bg (j:=5) (U G 0) (bg (j:=4) (U G 0) (bg (j:=3) (U G 0) (bg (j:=2) (U G 0) (bg (j:=1) (U G 0) (bg (j:=0) (J B_ 0 0) h.box))))));have b:Hid _:=(((((((Out.refl (λj=>j=sb) w).trans (bL w ⟨sb,0,B_⟩ (J B_ 0 0)) (Tc _ _)).trans (bL _ ⟨sb,1,B_⟩ (U G 0)) (Tc _ _)).trans (bL _ ⟨sb,2,B_⟩ (U G 0)) (Tc _ _)).trans (bL _ ⟨sb,3,B_⟩ (U G 0)) (Tc _ _)).trans (bL _ ⟨sb,4,B_⟩ (U G 0)) (Tc _ _)).trans (bL _ ⟨sb,5,B_⟩ (U G 0)) (Tc _ _)).trans (bL _ ⟨sb,6,B_⟩ (E B_)) (Tc _ _);clear h;go_enter func54,ntmps54;go_wp2_with fail;go_ret;refine⟨fZ.yes rfl,b.out.mono λj d=>RP d,{ x with ta:=B_,tc:=0 },⟨c.out,⟨a.out.slt.1,RV a.out.slt.2 b.out.size⟩,λh0=>?_,λM e=>?_⟩⟩
 ·exact absurd h0 (Nat.lt_irrefl 0)
 ·cases e
def aP5(la:Option J_)(cl:Nat)(l:List Int)(lo sb n:Nat)(x:gP)(H:aY)(w:C_)(h:bA w lo sb x H n)(a:qH w sb la l)(k:l.length=3)(b:H.aX=B_):
  Sj prog 39 #[E (A_ ⟨sb,0,B_⟩),J la l.length cl] w λe w'=>jC w w' lo sb n (bq 1 l H) e:=by
 have c:=ah h;have d:=ah b;obtain⟨g,rfl,A,d0⟩:=a.cells 0 o7;obtain⟨g',e1,_,s⟩:=a.cells 1 o7;obtain⟨z,e2,_,t⟩:=a.cells 2 o7;cases e1;cases e2;have p:=aj (j:=1) h.box rfl;have q:=aj (j:=2) h.box rfl;have r:=aj (j:=3) h.box rfl;have u:=aI (j:=1) h.box;have v:=aI (j:=2) h.box;have y:=aI (j:=3) h.box;have i:Hid _:=bg (j:=3) (U G (nI l 2)) (bg (j:=2) (U G (nI l 1)) (bg (j:=1) (U G (nI l 0)) h.box));have f:Hid _:=(((Out.refl (λj=>j=sb) w).trans (bL w ⟨sb,1,B_⟩ (U G (nI l 0))) (Tc _ _)).trans (bL _ ⟨sb,2,B_⟩ (U G (nI l 1))) (Tc _ _)).trans (bL _ ⟨sb,3,B_⟩ (U G (nI l 2))) (Tc _ _);clear h a b;rw[k];go_enter func39,ntmps39;go_upto_region 1 with fail;go_region;go_wp2_with fail;go_ret;obtain⟨m,o⟩:=c.out.told (H':={ H with st:=nI l 0,dy:=nI l 1,pr:=nI l 2 }) (fI f.out) i.out rfl d.out;exact⟨fZ.yes rfl,o,x,m⟩
def aP3(la:Option J_)(cl:Nat)(l:List Int)(lo sb n:Nat)(x:gP)(H:aY)(w:C_)(h:bA w lo sb x H n)(a:qH w sb la l)(k:l.length=2)(b:H.aX=B_):
  Sj prog 40 #[E (A_ ⟨sb,0,B_⟩),J la l.length cl] w λe w'=>jC w w' lo sb n (bq 2 l H) e:=by
 have c:=ah h;have d:=ah b;obtain⟨g,rfl,t,d0⟩:=a.cells 0 o7;obtain⟨g',e1,_,q⟩:=a.cells 1 o7;cases e1;have c4:=aj (j:=4) h.box rfl;have p:=aj (j:=5) h.box rfl;have r:=aI (j:=4) h.box;have s:=aI (j:=5) h.box;have i:Hid _:=bg (j:=5) (U G (nI l 1)) (bg (j:=4) (U G (nI l 0)) h.box);have f:Hid _:=((Out.refl (λj=>j=sb) w).trans (bL w ⟨sb,4,B_⟩ (U G (nI l 0))) (Tc _ _)).trans (bL _ ⟨sb,5,B_⟩ (U G (nI l 1))) (Tc _ _);clear h a b;rw[k];go_enter func40,ntmps40;go_upto_region 1 with fail;go_region;go_wp2_with fail;go_ret;obtain⟨m,o⟩:=c.out.told (H':={ H with ti:=nI l 0,mo:=nI l 1 }) (fI f.out) i.out rfl d.out;exact⟨fZ.yes rfl,o,x,m⟩
def dQ.isD{a:D_}{n:Int}(h:dQ a n):AJ w a n (-1)/\(a=.nilIface\/n≠0):=by
 rcases h with⟨h1,h2⟩|⟨h1,h2⟩
 ·exact⟨RP ⟨h1,h2,rfl⟩,RP h1⟩
 ·exact⟨RN (RP ⟨h1,rfl⟩),RN h2⟩
def uR(a:D_)(n:Int)(w:C_)(b:jD w)(h:dQ a n):
  Sj prog 73 #[a] w λe w'=>PX n e/\Sd w.heap.size w w':=aAy a n (-1) w b (dQ.isD h).1 (dQ.isD (w:=w) h).2
def Km(p s:Int):dN (iB p s)/\dN (iA p s):=by
 unfold dN iB iA je fP;split
 ·rename_i h;simp only[SV,decide_eq_true_eq]at h;have h1:0<=p*s / 10000:=Int.ediv_nonneg (Int.mul_nonneg o7 o7) d7;omega
 ·omega
def aP4(la:Option J_)(cl:Nat)(l:List Int)(lo sb n:Nat)(x:gP)(H:aY)(w:C_)(h:bA w lo sb x H n)(v:qH w sb la l)(L:l.length=2)(hv:bE w)(F:7<=lo):
  Sj prog 53 #[E (A_ ⟨sb,0,B_⟩),J la l.length cl] w λe w'=>jC w w' lo sb n (bq 15 l H) e:=by
 have o:=ah h;have D:=ah hv;obtain⟨g,rfl,I,d0⟩:=v.cells 0 o7;obtain⟨g',e1,_,A⟩:=v.cells 1 o7;cases e1;have q:Hid (∀V,Sd w.heap.size w V->(λw':C_=>w'.cell? ⟨g,0,B_⟩=A_ (U G (nI l 0))/\w'.cell? ⟨g,1,B_⟩=A_ (U G (nI l 1))) V):=λV hV=>⟨iQ hV d0,iQ hV A⟩
 clear h v hv d0 A I;rw[L];go_enter func53,ntmps53;go_upto_region 1 with fail;refine JK (λ_=>λw':C_=>w'.cell? ⟨g,0,B_⟩=A_ (U G (nI l 0))/\w'.cell? ⟨g,1,B_⟩=A_ (U G (nI l 1))) (λ_ i=>i == 6) k7 (λ_=>q.out _ (RS _ _).drew) (λhHeld=>?_);have u:Sd w.heap.size w w.drew:=(RS _ _).drew;generalize w.drew=wz at u hHeld⊢;refine dY 0 0 (hHeld 0) ?_;refine dY 0 1 (hHeld 0) ?_;refine dY 0 2 (hHeld 0) ?_;refine dY 0 3 (hHeld 0) ?_;refine dY 0 4 (hHeld 0) ?_;refine dY 0 5 (hHeld 0) ?_;refine EZ (i:=6) k7 rfl (λK B=>?_);go_simp;refine(za (nI l 0) (nI l 1) wz).mono ?_;rintro e w1 ⟨rfl,k⟩;have b:=ah (aJ u k);refine B.out _ _ (λ_ h=>by cases h) ?_;clear B K hHeld u k;refine jT 7 ?_;refine jT 8 ?_;refine jT 9 ?_;refine jT 10 ?_;refine jT 11 ?_;refine jT 12 ?_;refine jT 13 ?_;refine EY k7 ?_ _;have d:Hid (bE w1):=D.out.below b.out (RV F o.out.slt.2);cases hok:je (nI l 0) (nI l 1)with
 |true=>
  have j:oM (nI l 0) (nI l 1)=.nilIface:=by unfold oM;rw[RF hok]
  have HE:Hid (AY (nI l 0) (nI l 1)=0):=by show _=_;unfold AY;rw[RF hok]
  rw[j];obtain⟨s,t⟩:=Km (nI l 0) (nI l 1);clear j hok;go_wp2_with fail;refine(uR .nilIface 0 w1 d.out.et (RP ⟨rfl,rfl⟩)).mono ?_;rintro e w2 ⟨y,a⟩;have c:=ah (aJ b.out a);have r:=ah (d.out.tab.below a);rcases y with⟨_,rfl⟩|⟨h0,_⟩
  ·clear a;go_wp2_with fail;have f:=aM w2 (R #[U G (iB (nI l 0) (nI l 1)),U G (iA (nI l 0) (nI l 1))] 3)
   refine(Bp w2.heap.size 0 2 [iB (nI l 0) (nI l 1),iA (nI l 0) (nI l 1)] _ (BL w2 [iB (nI l 0) (nI l 1),iA (nI l 0) (nI l 1)] 3) (λz C=>by
    simp only[SB,Ud,or_false]at C;rcases C with rfl|rfl
    ·exact s
    ·exact t) s7 s7 (r.out.below f)).mono ?_
   rintro e w3 ⟨rfl,m⟩;have p:=ah (aJ c.out (aJ f m));clear f m;go_wp2_with fail;go_ret;refine o.out.stay p.out ?_;exact fZ.ok HE.out rfl
  ·exact absurd rfl h0
 |false=>
  have j:oM (nI l 0) (nI l 1)=.iface 30 (U G 2):=by unfold oM;rw[RD (by rw[hok];decide)]
  have HE:Hid (AY (nI l 0) (nI l 1)=2):=by show _=_;unfold AY;rw[RD (by rw[hok];decide)]
  rw[j];clear j hok;go_wp2_with fail;refine(uR (.iface 30 (U G 2)) 2 w1 d.out.et (RN ⟨rfl,d7⟩)).mono ?_;rintro e w2 ⟨y,a⟩;have c:=ah (aJ b.out a);rcases y with⟨h0,_⟩|⟨_,rfl⟩
  ·exact absurd h0 d7
  ·clear a;go_wp2_with fail;refine⟨rfl,o.out.stay c.out ?_⟩;rw[HE.out];exact fZ.no d7
def bGb{q:Array Oper}{o:Oper}{K:Act->C_->Prop}{E:Prop}(D:o.guard=B_)(s x:Operand)(t:RZ)(A:o.op=Op.call { callee:=Callee.builtin Builtin.append,args:=#[s,x],argTypes:=#[t,t] })(d:Nat)(e:RZ)(i:TypeInfo)(z:D_)(size b:Nat)(H:P.underlying t=A_ (.slice e))(hi:P.info? e=A_ i)(L:i.zero=A_ z)(l:i.size=size)(y:i.bytes=b)(C:z.cells.size=size)(B:0<size)(v:D_)(n:Nat)(xs:List D_)(G:a.eval s=v)(p:w.ownsRow d e size v n xs)(ad:J_)(m c:Nat)(news:List D_)(J:a.eval x=.slice (A_ ad) m c)(F:news.length=m*size)(k:∀j u,news[j]? = A_ u->w.cell? (ad.add j)=A_ u)(h1:∀u∈news,u.oneCell'=G_)(r:n+m<=maxLen)(f:(n+m)*b<=140737488355328)(g:d<=w.heap.size)(h:∀v' w',w'.ownsRow d e size v' (n+m) (xs++news)->w.grownBy w' v.ownBlock->K (a.put o.dst v') w'):
  if Vv o (yielded q a.tmps)=G_ then Oper.wp P o a w K Q else E:=by
 have I:Vv o (yielded q a.tmps)=G_:=by simp[Vv,D]
 rw[RF I];exact wp_append_own w s x t A d e i z size b H hi L l y C B v n xs G p ad m c news J F k h1 r f g (λv' w' h2 h3 _=>h v' w' h2 h3)
def aT3(a b:List (Int×Int)):flat (a++b)=flat a++flat b:=by
 induction a with
 |nil=>rfl
 |cons r a ih=>simp[flat,ih]
def aT7(h:k<rs.length):flat (rs.take k)++[U G (dA rs k).1,U G (dA rs k).2]=flat (rs.take (k+1)):=by
 rw[SQ h,aT3];simp[flat,dA,h]
def aGe{a:Nat}{size:Nat}(h:w.ownsRow a e size v n xs):∀k,v.ownBlock=A_ k->a<=k:=by
 intro k hk;obtain⟨_,⟨rfl,_⟩|⟨g,c,b,rfl,d,_⟩⟩:=h
 ·cases hk
 ·cases hk;exact d
def bBl{a:Nat}(h:w.ownsRow a e 2 v n (flat rs))(hn:0<n):∃cb c:Nat,v=J (A_ ⟨cb,0,B_⟩) n c/\jW w cb 0 rs:=by
 obtain⟨_,⟨_,h0⟩|⟨g,c,b,rfl,_,k,_,_,_,f⟩⟩:=h
 ·omega
 ·refine⟨g,c,rfl,λj u d=>?_⟩
  have h3:b.toList[j]? = A_ u:=by
   rw[<-f,List.getElem?_take]at d;split at d
   ·exact d
   ·cases d
  have i:b[j]? = A_ u:=by rw[<-h3];simp
  simp[World.cell?,k,i]
def El:∀l:List Int,(lK l).length=l.length / 2
 |[]=>rfl
 |[_]=>by simp[lK]
 |_::_::l=>by
  have:=El l;simp only[lK,SC,this];omega
def NG:∀(l:List Int) (k:Nat),2*k+1<l.length->dA (lK l) k=(nI l (2*k),nI l (2*k+1))
 |[],k,h=>absurd h s7
 |[_],k,h=>absurd h s7
 |a::b::l,0,_=>rfl
 |a::b::l,k+1,h=>by
  have e:=NG l k (by simp only[SC]at h;omega);have e1:dA (lK (a::b::l)) (k+1)=dA (lK l) k:=by simp[dA,lK]
  rw[e1,e];rfl
def bBn(h:∀k,dN (nI l k)):EU (lK l):=λk hk=>by
 rw[El]at hk;rw[NG l k o7];exact⟨Yc (h _),Yc (h _)⟩
def ND{b:Nat}{size:Nat}(h:w.ownsRow b e size v n xs):∃(a:Option J_) (c:Nat),v=J a n c:=by
 obtain⟨_,⟨rfl,rfl⟩|⟨g,c,d,rfl,_⟩⟩:=h
 ·exact⟨_,_,rfl⟩
 ·exact⟨_,_,rfl⟩
def aQ1(la:Option J_)(cl:Nat)(l:List Int)(lo sb n:Nat)(x:gP)(H:aY)(w:C_)(h:bA w lo sb x H n)(ha:qH w sb la l)(hl:l.length % 2=0)(a3:l.length<=10000)(hM:H.aX=B_):
  Sj prog 38 #[E (A_ ⟨sb,0,B_⟩),J la l.length cl] w λe w'=>jC w w' lo sb n (bq 0 l H) e:=by
 obtain⟨i0,hi,I,K,L⟩:=Vw aDg;have t:=ah h;have HM:=ah hM;have P:=ah ha;have HL:=ah hl;clear h ha hM hl;go_enter func38,ntmps38;go_wp2_with (at_make;refine wpList_make_own _ rfl _ _ 48 rfl w.heap.size 109 i0 (.agg #[U G 0,U G 0]) 2 underlying48 hi I K _ _ _ (l.length / 2) rfl rfl (by go_num) (by rw[L];omega) (by unfold maxLen;omega) au ?_;intro w3 b B);have Q:Hid (Sd w.heap.size w w3):=(RS _ _).grown B au (λq hq=>by cases hq);have S:=ah b;clear b B;go_loopw [5,6] (λv i wr=>∃k j:Nat,2*k<=l.length/\j=2*k/\i=U G j/\wr.ownsRow w.heap.size 109 2 v k (flat ((lK l).take k))/\Sd w.heap.size w wr) (λ_ i _=>l.length - (intOf i).toNat)
 case atStart=>exact⟨0,0,Sv _,rfl,rfl,S.out,Q.out⟩
 case round=>
  obtain⟨k,j,hk,f,rfl,a,O⟩:=hrel;obtain⟨va,r,rfl⟩:=ND a;have s:=ah f;have HK:=ah hk;have a0:=ah O.size;have o:Hid (wr.heap[sb]? = A_ (R (uS x H) 53 (0,0))):=aL t.out.box O au;have cS:=aj (j:=0) o.out rfl;have fS:=aI (j:=0) o.out;have N:=ah a;have d:=ah O;clear a O f hk;go_wp2_with fail
  ·have C:=HL.out;have f:=s.out;have W:j+1<l.length:=o7;clear cS fS;have X:k<(lK l).length:=by rw[El];omega
   obtain⟨g,rfl,_,d0⟩:=P.out.cells j o7;obtain⟨g',e1,_,V⟩:=P.out.cells (j+1) W;cases e1;have c0:=(d.out.cell (SN w _ d0)).trans d0;have c1:=(d.out.cell (SN w _ V)).trans V;clear d0 V
   have C3:Hid (∀q u,[SX .i64 (nI l j),U G (nI l (j+1))][q]? = A_ u->(wr.alloc (R #[U G (nI l j),U G (nI l (j+1))] 109)).cell? ((⟨wr.heap.size,0,B_⟩:J_).add q)=A_ u):=λq u f=>by
    rw[Addr.add_lit,Vz,World.cell?_alloc_at _ _ _ _ rfl];simpa using f
   have Z:Hid (flat ((lK l).take k)++[U G (nI l j),U G (nI l (j+1))]=flat ((lK l).take (k+1))):=by
    have:=aT7 X;rw[NG l k o7,<-f]at this;exact this
   have a1:k<=5000:=o7;clear C f;have hw:IntKind.i64.wrap ((j:Int)+1)=(j:Int)+1:=IntWalk.i64_in _ o7;have a4:(0:Int)<=(j:Int)+1:=o7;have a5:(j:Int)+1<(l.length:Int):=o7;have a6:((j:Int)+1).toNat=j+1:=o7;go_region_law (refine bGb rfl _ _ 48 rfl w.heap.size 109 i0 (.agg #[U G 0,U G 0]) 2 16 underlying48 hi I K L rfl d7 (J va k r) k (flat ((lK l).take k)) rfl (N.out.alloc _) ⟨wr.heap.size,0,B_⟩ 1 1 [U G (nI l j),U G (nI l (j+1))] rfl rfl C3.out (by simp[Vk]) (by unfold maxLen;omega) o7 (RV d.out.size s7) ?_;intro v1 w1 F A)
   all_goals go_wp2
   all_goals go_roundw
   case rel=>exact⟨k+1,j+2,(by have:=s.out;omega),(by have:=s.out;omega),by go_num,Z.out▸F,(d.out.alloc d.out.size _).drew.grown A (RV d.out.size s7) (aGe N.out)⟩
   case measure=>first|(simp[intOf];omega)|omega
   case rel=>exact⟨k+1,j+2,(by have:=s.out;omega),(by have:=s.out;omega),by go_num,Z.out▸F,(d.out.alloc d.out.size _).drew.grown A (RV d.out.size s7) (aGe N.out)⟩
   case measure=>first|(simp[intOf];omega)|omega
  ·go_ret;have f:=s.out;have C:=HL.out;have a2:=HK.out;obtain rfl:k=l.length / 2:=o7;have m:=El l
   have p:Hid (wr.ownsRow w.heap.size 109 2 (J va (l.length / 2) r) (l.length / 2) (flat (lK l))):=by
    have:=N.out;rw[<-m,Vd,m]at this;exact this
   have z:=bg (j:=0) (J va (l.length / 2) r) o.out;have hO:Out (λj=>j=sb) w (wr.setCell ⟨sb,0,B_⟩ (J va (l.length / 2) r)):=(Out.of_below d.out au).trans (bL wr ⟨sb,0,B_⟩ _) (Tc _ _);refine⟨fZ.yes rfl,hO.mono λj f=>RP f,{ x with ta:=va,tc:=r },⟨?_,⟨t.out.slt.1,RV t.out.slt.2 hO.size⟩,λh0=>?_,λM e=>?_⟩⟩
   ·have e1:uS { x with ta:=va,tc:=r } { H with rs:=lK l }=(uS x H).setIfInBounds 0 (J va (l.length / 2) r):=by
     unfold uS;rw[m];rfl
    rw[show(bq 0 l H).2={ H with rs:=lK l } from rfl,e1];exact z
   ·have h1:0<l.length / 2:=m▸h0;obtain⟨cb,c,e,hr⟩:=bBl p.out h1;injection e with e2 _ e4;subst e2;have Y:=p.out.lt cb rfl;have D:¬cb=sb:=λe=>by have:=t.out.slt;omega
    obtain⟨_,⟨e,_⟩|⟨g,c',T,e,_,hh,_⟩⟩:=p.out
    ·cases e
    ·injection e with y _ _;injection y with y;injection y with y _ _;subst y;refine⟨cb,rfl,og hr (bL wr ⟨sb,0,B_⟩ _) D,bBn P.out.nums,RV t.out.slt.2 Y.1,λ⟨M,e⟩=>?_,T,(0,0),aH hh (bL wr ⟨sb,0,B_⟩ _) D⟩;rw[show(bq 0 l H).2.aX=H.aX from rfl,HM.out]at e;cases e
   ·rw[show(bq 0 l H).2.aX=H.aX from rfl,HM.out]at e;cases e
def aHu:∀{rs:List (Int×Int)} {p:Int×Int} {i:Nat},(jk p i rs).1=0->jk p i rs=(0,-1)
 |[],_,_,_=>rfl
 |r::rs,p,i,h=>by
  unfold jk at h⊢
  by_cases e:pQ p r=0
  ·rw[RF e]at h⊢;exact aHu h
  ·rw[RD e]at h;exact absurd h e
def bG6(h:(eZ rs).1=0):eZ rs=(0,-1):=by
 cases rs with
 |nil=>exact absurd h d7
 |cons r rs=>
  rw[Cq]at h⊢;split
  ·rename_i e;rw[RF e]at h;exact absurd h d7
  ·rename_i e;rw[RD e]at h;split
   ·rename_i e2;rw[RF e2]at h;exact aHu h
   ·rename_i e2;rw[RD e2]at h;exact absurd h d7
def aFb(h:(newE rs st dy p ti mo).1=0):eZ rs=(0,-1)/\tY st dy p=G_/\(1<=ti/\ti<=1000000)/\(0<=mo/\mo<=10)/\(1<=p/\p<=1000000)/\(0<=st/\st<=10000)/\(0<=dy/\dy<=10000):=by
 unfold newE at h
 by_cases h0:(eZ rs).1≠0
 ·rw[RF h0]at h;exact absurd h h0
 ·rw[RD h0]at h;have h1:=SL h0
  by_cases h2:tY st dy p=G_/\Ap ti mo=G_
  ·refine⟨bG6 h1,h2.1,?_⟩;obtain⟨a,b⟩:=h2;unfold tY je fP at a;unfold Ap at b;simp only[SV,decide_eq_true_eq]at a b;omega
  ·rw[RD h2]at h;exact absurd h d7
def Eg.outT{k:bC}{S:Nat->Prop}(h:Eg w eb k M)(ho:Out S w w')(a:∀j,k.foot eb j->¬S j)(c:w'.cell? ⟨k.tb,0,B_⟩=A_ (J (A_ ⟨k.cb,0,B_⟩) M.rs.length k.ct)/\jW w' k.cb 0 M.rs):Eg w' eb k M:=
 ⟨aH h.box ho (a _ (RP rfl)),c,Nat.lt_of_lt_of_le h.oD ho.size,
  aH h.bn ho (a _ (RN (RP rfl))),h.bk.out ho (λ_ b=>a _ (RN (RN (RP b)))),h.bU,cu h.pk ho (λ_ b=>a _ (RN (RN (RN (RP b))))),
  h.tkn.same (ho.block _ h.tkn.lt (a _ (RN (RN (RN (RN rfl)))))),h.uF,h.few,h.far⟩
def Lx:∀(rs:List (Int×Int)) (j:Nat) (u:D_),(flat rs)[j]? = A_ u->∃z,u=U G z
 |[],j,u,h=>absurd h (by simp[flat])
 |r::rs,0,u,h=>⟨r.1,by simpa[flat]using h.symm⟩
 |r::rs,1,u,h=>⟨r.2,by simpa[flat]using h.symm⟩
 |r::rs,j+2,u,h=>Lx rs j u (by simpa[flat]using h)
def aZl(a:Option J_)(cap m:Nat)(w:C_)(b:20<m)(c:m<=10000):Sj prog 95 #[J a m cap] w λe w'=>e=Y (.tuple #[E B_,.iface 30 (U G 4)])/\w'=w:=by
 go_enter func95,ntmps95;go_wp2;go_ret2;exact⟨rfl,rfl⟩
def aRz(a:Option J_)(cap:Nat)(rs:List (Int×Int))(st dy p ti mo:Int)(w:C_)(d:20<rs.length)(g:rs.length<=10000):
  Sj prog 72 #[.agg #[J a rs.length cap,U G st,U G dy,U G p,U G ti,U G mo]] w λe w'=>CG w rs st dy p ti mo e w':=by
 have HE:Hid (newE rs st dy p ti mo=(4,-1)):=by
  show _=_;unfold newE;rw[Ju d];rfl
 go_enter func72,ntmps72;go_upto_region 1 with fail;have c:=RU w (R #[J a rs.length cap,U G st,U G dy,U G p,U G ti,U G mo] 50);have b:=aM w (R #[J a rs.length cap,U G st,U G dy,U G p,U G ti,U G mo] 50);generalize w.alloc (R #[J a rs.length cap,U G st,U G dy,U G p,U G ti,U G mo] 50)=w1 at c b⊢;have k:w1.cell? ⟨w.heap.size,0,B_⟩=A_ (J a rs.length cap):=aj (j:=0) c rfl;have f:=ah b;clear c b;go_wp2_with fail;refine(aZl a cap rs.length w1 d g).mono ?_;rintro e w2 ⟨rfl,i⟩;subst i;go_wp2_with fail;go_ret2;exact wV (by rw[HE.out];exact RN (RP ⟨rfl,rfl⟩)) f.out
def aQo(lo sb n:Nat)(x:gP)(H:aY)(w:C_)(h:bA w lo sb x H n)(f:H.rs.length<=10000):
  Sj prog 72 #[.agg #[J x.ta H.rs.length x.tc,U G H.st,U G H.dy,U G H.pr,U G H.ti,U G H.mo]] w λe w'=>
   ((newE H.rs H.st H.dy H.pr H.ti H.mo).1=0/\H.rs.length<=60/\CF w H.rs H.st H.dy H.pr H.ti H.mo e w')\/((newE H.rs H.st H.dy H.pr H.ti H.mo).1≠0/\CG w H.rs H.st H.dy H.pr H.ti H.mo e w'):=by
 by_cases h0:H.rs.length=0
 ·have d:=List.eq_nil_of_length_eq_zero h0;rw[h0,d];exact(aR1 x.ta x.tc H.st H.dy H.pr H.ti H.mo w).mono λe w' a=>RN ⟨by unfold newE;rw[RF d7];decide,a⟩
 ·by_cases h1:20<H.rs.length
  ·exact(aRz x.ta x.tc H.rs H.st H.dy H.pr H.ti H.mo w h1 f).mono λe w' a=>RN ⟨by unfold newE;rw[Ju h1,RF d7];decide,a⟩
  ·obtain⟨tb,e1,e2,c,_⟩:=h.rows o7;rw[e1]
   by_cases b:(newE H.rs H.st H.dy H.pr H.ti H.mo).1=0
   ·obtain⟨g,i,j,k,l,m,o⟩:=aFb b;exact(aR2 tb 0 x.tc H.rs H.st H.dy H.pr H.ti H.mo w e2 c o7 o7 g i j k).mono λe w' a=>RP ⟨b,o7,a⟩
   ·exact(aR0 tb 0 x.tc H.rs H.st H.dy H.pr H.ti H.mo w e2 c o7 o7 b).mono λe w' a=>RN ⟨b,a⟩
def aQ0(la:Option J_)(cl:Nat)(l:List Int)(lo sb n:Nat)(x:gP)(H:aY)(w:C_)(h:bA w lo sb x H n)(hr:H.rs.length<=10000)(hM:H.aX=B_)(hv:bE w)(hB:7<=lo):
  Sj prog 41 #[E (A_ ⟨sb,0,B_⟩),J la l.length cl] w λe w'=>jC w w' lo sb n (bq 3 l H) e:=by
 have b:=ah h;have HM:=ah hM;have S:=ah hv;have T:w.cell? ⟨sb,0,B_⟩=A_ (J x.ta H.rs.length x.tc):=aj (j:=0) h.box rfl;have V:w.cell? ⟨sb,1,B_⟩=A_ (U G H.st):=aj (j:=1) h.box rfl;have W:w.cell? ⟨sb,2,B_⟩=A_ (U G H.dy):=aj (j:=2) h.box rfl;have X:w.cell? ⟨sb,3,B_⟩=A_ (U G H.pr):=aj (j:=3) h.box rfl;have c4:w.cell? ⟨sb,4,B_⟩=A_ (U G H.ti):=aj (j:=4) h.box rfl;have Y:w.cell? ⟨sb,5,B_⟩=A_ (U G H.mo):=aj (j:=5) h.box rfl;clear h hM hv;go_enter func41,ntmps41;go_wp2_with fail;refine(aQo lo sb n x H w b.out hr).mono ?_;rintro e w1 hN;rcases hN with⟨s,Q,eb,k,rfl,t,P,A,i⟩|⟨s,K,rfl,he,i⟩
 ·have HE:=ah s;have F:=ah t;have p:=ah A;have o:=ah i;have y:=aL b.out.box i au;have q:Hid (bE w1):=S.out.below i (RV hB b.out.slt.2);clear s t A i T V W X c4 Y;have D:Hid _:=y;clear y;go_wp2_with fail;refine(uR .nilIface 0 w1 q.out.et (RP ⟨rfl,rfl⟩)).mono ?_;rintro e w2 ⟨O,a⟩;rcases O with⟨_,rfl⟩|⟨h0,_⟩
  ·have c:Hid _:=aL D.out a au;have d:=ah (F.out.below a);have g:=ah (aJ o.out a);have c6:=aj (j:=6) c.out rfl;have f6:=aI (j:=6) c.out;clear a;go_wp2_with fail;go_ret;have v:=bg (j:=6) (E (A_ ⟨eb,0,B_⟩)) c.out;have r:Out (λj=>j=sb) w2 (w2.setCell ⟨sb,6,B_⟩ (E (A_ ⟨eb,0,B_⟩))):=bL w2 ⟨sb,6,B_⟩ _;have N:Out (λj=>j=sb) w (w2.setCell ⟨sb,6,B_⟩ (E (A_ ⟨eb,0,B_⟩))):=(Out.of_below g.out au).trans r (Tc _ _)
   have L:bq 3 l H=((0,jU 3),{ H with aX:=A_ (BN H.rs H.st H.dy H.pr H.ti H.mo) }):=by
    show(if _ then _ else _)=_;rw[RF HE.out]
   have R:¬k.foot eb sb:=λe=>by
    have:=p.out sb e;have:=b.out.slt;omega
   obtain⟨z1,z2,z3,z4,z5,z6,z7⟩:=aFb HE.out;rw[L];refine⟨fZ.yes rfl,N.mono λj m=>RP m,{ x with eb:=eb,k:=k },⟨?_,⟨b.out.slt.1,RV b.out.slt.2 N.size⟩,λh0=>?_,λM e=>?_⟩⟩
   ·have e1:uS { x with eb:=eb,k:=k } { H with aX:=A_ (BN H.rs H.st H.dy H.pr H.ti H.mo) }=(uS x H).setIfInBounds 6 (E (A_ ⟨eb,0,B_⟩)):=by
     unfold uS;rfl
    rw[e1];exact v
   ·obtain⟨tb,g1,g2,g3,g4,_,cs,f,Z⟩:=b.out.rows h0;have a0:=lt_of_block Z;have B:¬tb=sb:=λe=>by have:=b.out.slt;omega
    refine⟨tb,g1,og (g2.below g.out au) r B,g3,g4,λ_ e=>?_,cs,f,aH Z N B⟩;have:=p.out tb e;omega
   ·cases e;refine⟨d.out.outT r (λj m=>λe=>R (e▸m)) ⟨?_,?_⟩,aYt z1 Q z5 z3 z4,λj m=>RV b.out.slt.2 (p.out j m),by rw[P];exact Sv _,?_⟩
    ·rw[Yo (h:=λe=>by injection e with _ e;cases e)];exact d.out.tab.1
    ·intro j u m;have C:=d.out.tab.2 j u m
     by_cases e:(⟨sb,6,B_⟩:J_)=⟨k.cb,0+j,B_⟩
     ·rw[<-e,c6]at C;obtain⟨z,hz⟩:=Lx _ j u m;rw[hz]at C;cases C
     ·rw[Yo (h:=e)];exact C
    ·show(0:Int)<=_;omega
  ·exact absurd rfl h0
 ·have HE:=ah s;have o:=ah i;have I:Hid _:=he;have q:Hid (bE w1):=S.out.below i (RV hB b.out.slt.2);clear s i he T V W X c4 Y;go_wp2_with fail;refine(aAy K _ _ w1 q.out.et I.out (RN HE.out)).mono ?_;rintro e w2 ⟨O,a⟩;have g:=ah (aJ o.out a);rcases O with⟨h0,_⟩|⟨h0,rfl⟩
  ·exact absurd h0 HE.out
  ·clear a;go_wp2_with fail;refine⟨rfl,?_⟩
   have L:bq 3 l H=(((newE H.rs H.st H.dy H.pr H.ti H.mo).1,[]),H):=by
    show(if _ then _ else _)=_;rw[RD HE.out]
   rw[L];exact b.out.stay g.out (RN ⟨HE.out,rfl⟩)
def aQb(p:J_)(w:C_):
  CallsD prog 60 #[E (A_ p)] .returning w λe d w'=>e=Y (.tuple #[])/\d=.returning/\w'=w:=by
 have c:∀(w:C_),(binOp .neq 20 .nilIface .nilIface).run prog w=.ok (.bool E_) w:=λ_=>by kernel_rfl
 refine callsD_of_wpS func60 rfl λa cs b=>?_
 apply wpS_seq;apply wpS_region;simp[wpOpsS,go_sem,recoverD,b,ntmps60,Exit.thenS];apply wpS_seq;apply wpS_region;simp[wpOpsS,go_sem,c,Exit.thenS];refine wpS_cond (t:=E_) (by simp[Act.eval,UJ]) ?_;simp only[Bool.false_eq_true,if_false];refine wpS_of_wp (wp_skip ?_);cases a
 simp_all [bodyPostS,results,results60]
def aQa(p:J_)(m:Int)(t:ByteArray)(a:List PanicEntry)(w:C_)(d:w.cell? p=A_ (.string t))(f:w.frozen? p=E_)(hn:dN m)(k:lY w):
  CallsD prog 60 #[E (A_ p)] (.panicking ({ v:=.iface 30 (U G m),recovered:=E_ }::a)) w λe q w'=>
   e=Y (.tuple #[])/\q=.panicking ({ v:=.iface 30 (U G m),recovered:=G_ }::a)/\∃w1,Sd w.heap.size w w1/\w'=w1.setCell p (.string (aQ (tJ m))):=by
 have o:∀(w:C_) (t:RZ) (p:D_),(binOp .neq 20 (.iface t p) .nilIface).run prog w=.ok (.bool G_) w:=λ_ _ _=>by kernel_rfl
 refine callsD_of_wpS func60 rfl λi cs l=>?_
 apply wpS_seq;apply wpS_region;simp[wpOpsS,go_sem,recoverD,l,ntmps60,Exit.thenS];apply wpS_seq;apply wpS_region;simp[wpOpsS,go_sem,o,Exit.thenS];refine wpS_cond (t:=G_) (by simp[Act.eval,UJ]) ?_;simp only[if_true];refine wpS_of_wp ?_;have b:UJ 6 undef=#[undef,undef,undef,undef,undef,undef]:=rfl;simp[b];clear b;go_wp2_with fail;refine(aQ7 m w hn k).mono ?_;rintro e w1 ⟨rfl,c⟩;have j:=(c.cell (SN w _ d)).trans d;have n:w1.frozen? p=E_:=(c.frozen (SN w _ d)).trans f;have g:=ah c;clear c d f;go_wp2_with fail;cases i
 simp_all [bodyPostS,results,results60]
 exact⟨_,g.out,rfl⟩
def EI(p:Nat->Bool)(s:ByteArray):∀(f pos:Nat) (st:Option Nat) (acc:List (Nat×Nat)),(YH p s f pos st acc).1.length<=acc.length+f
 |0,_,_,acc=>au
 |f+1,pos,st,acc=>by
  unfold YH;split
  ·split
   ·cases st with
    |some a=>
     have:=EI p s f (pos+(ZC s pos).2) B_ (acc++[(a,pos)]);simp only[Sl,SC,Ui]at this;show(YH p s f (pos+(ZC s pos).2) B_ (acc++[(a,pos)])).1.length<=_;omega
    |none=>
     have:=EI p s f (pos+(ZC s pos).2) B_ acc;show(YH p s f (pos+(ZC s pos).2) B_ acc).1.length<=_;omega
   ·cases st with
    |some a=>
     have:=EI p s f (pos+(ZC s pos).2) (A_ a) acc;show(YH p s f (pos+(ZC s pos).2) (A_ a) acc).1.length<=_;omega
    |none=>
     have:=EI p s f (pos+(ZC s pos).2) (A_ pos) acc;show(YH p s f (pos+(ZC s pos).2) (A_ pos) acc).1.length<=_;omega
  ·exact Nat.le_add_right _ _
def aN6(s:ByteArray)(r:List (Nat×Nat)×Option Nat):(Lib.closeSpans s r).length<=r.1.length+1:=by
 unfold Lib.closeSpans;split<;>simp
def aKc(s:ByteArray):(qG s).length<=s.size+1:=by
 unfold qG Lib.goFieldsP Lib.spansOfP;rw[TL];have h1:=aN6 s (YH (λr=>r == 32) s s.size 0 B_ []);have h2:=EI (λr=>r == 32) s s.size 0 B_ [];simp only[Ui,Vz]at h2;omega
def bIv{t:ByteArray}(h:t∈qG s):t.size<=s.size:=by
 unfold qG Lib.goFieldsP at h;obtain⟨x,_,rfl⟩:=Ti.1 h;rw[ByteArray.size_extract];omega
def aP6(r:Int)(w:C_):Sj prog 62 #[.int .i32 r] w λe w'=>e=Y (.bool (r == 32))/\w'=w:=by
 go_enter func62,ntmps62;go_wp2;go_ret;exact⟨rfl,rfl⟩
def aP7(args:Array D_)(w:C_):(callFunc 62 args).run prog w=.ok (.enter 62 args) w:=by rfl
def aQ4(s:ByteArray)(w:C_)(a:s.size<=1000000):
  Sj prog 61 #[.string s,.func (.func 62) #[] #[]] w λe w'=>∃A,e=Y (J (A_ ⟨A,0,B_⟩) (qG s).length (qG s).length)/\w.heap.size<=A/\
   w'.ownsRow w.heap.size 9 1 (J (A_ ⟨A,0,B_⟩) (qG s).length (qG s).length) (qG s).length ((qG s).map Zb)/\Sd w.heap.size w w':=
 Any.strings_FieldsFunc_runes aRe 62 #[] aP7 (λr=>r == 32) s w o7
  (λW x b _=>(aP6 (x:Int) W).mono λe w' h=>⟨by
   rw[h.1]
   have:((x:Int) == 32)=(x == 32):=by
    by_cases e:x=32
    ·rw[e];rfl
    ·rw[RG.2 e];exact RG.2 o7
   rw[this],0,h.2⟩) k7 k7
def aHa(c:dZ M.L)(f:M.L.length<=100)(a:1<=M.la/\M.la<=1000000):dN (kR M).price/\dN (kR M).ak/\dN (kR M).jN:=by
 have z:dN 0:=mF d7;unfold kR;split
 ·unfold aV
  by_cases b:0<(bH (bG M.L M.la) M.la).ak
  ·have h1:=KI c a b;obtain⟨h2,h3⟩:=aAn M.la b;have a1:=KT (bH (bG M.L M.la) M.la).price M.L;have d:=OX (bH (bG M.L M.la) M.la).price M.L;refine⟨mF o7,mF ?_,mF ?_⟩
   ·rw[h2];omega
   ·rw[h3];omega
  ·have h1:=RA (bG M.L M.la) M.la
   have h2:fU (bG M.L M.la)<1:=by
    by_cases e:fU (bG M.L M.la)<1
    ·exact e
    ·rw[RD e]at h1;omega
   have h3:bH (bG M.L M.la) M.la=⟨0,0,0⟩:=RF h2;rw[h3];exact⟨z,z,z⟩
 ·exact⟨z,z,z⟩
def bA.aX(h:bA w lo sb x H n)(a:H.aX=A_ M):w.cell? ⟨sb,6,B_⟩=A_ (E (A_ ⟨x.eb,0,B_⟩)):=by
 have:=h.ptr;rw[a]at this;exact this
def bA.asks(h:bA w lo sb x H n)(a:H.aX=A_ M)(b:Sd w.heap.size w w'){e:Ending}(c:fZ r e):jC w w' lo sb n (r,{ H with aX:=A_ M }) e:=by
 have:({ H with aX:=A_ M }:aY)=H:=by cases H;cases a;rfl
 rw[this];exact h.stay b c
def wH(b:4<=d/\d<=14)(l:List Int)(a:H.aX=A_ M):bq d l H=((gH d l M).1,{ H with aX:=A_ (gH d l M).2 }):=by
 obtain⟨h1,h2⟩:=b
 match d,h1,h2 with
 |4,_,_=>simp only[bq,a]
 |5,_,_=>simp only[bq,a]
 |6,_,_=>simp only[bq,a]
 |7,_,_=>simp only[bq,a]
 |8,_,_=>simp only[bq,a]
 |9,_,_=>simp only[bq,a]
 |10,_,_=>simp only[bq,a]
 |11,_,_=>simp only[bq,a]
 |12,_,_=>simp only[bq,a]
 |13,_,_=>simp only[bq,a]
 |14,_,_=>simp only[bq,a]
def aQu(la:Option J_)(cl:Nat)(l:List Int)(lo sb n:Nat)(x:gP)(H:aY)(M:aG)(w:C_)(h:bA w lo sb x H n)(g:H.aX=A_ M):
  Sj prog 48 #[E (A_ ⟨sb,0,B_⟩),J la l.length cl] w λe w'=>jC w w' lo sb n (bq 10 l H) e:=by
 have j:Hid (bq 10 l H=((gH 10 l M).1,{ H with aX:=A_ (gH 10 l M).2 })):=wH d7 l g;have i:=ah h;have m:=ah g;have u:=h.aX g;have HE:=ah ((h.eg M g).1);clear h g
 have fin:∀t,lN M.ph=t->jC w w lo sb n (bq 10 l H) (Y (.string (aQ t))):=λt s=>by
  rw[j.out];refine i.out.asks m.out (RS _ _) ?_;show fZ (0,lN M.ph) _;rw[s];exact fZ.yes rfl
 have a:Hid _:=fin;clear fin;go_enter func48,ntmps48;go_wp2_with fail;refine(aR7 x.eb x.k M w HE.out).mono ?_;rintro e w1 ⟨rfl,rfl⟩
 by_cases h1:M.ph=1
 ·have e1:=beq_iff_eq.2 h1;have b:Hid (lN M.ph=[112,114,101,111,112,101,110]):=by show _=_;unfold lN;rw[RF h1]
  clear h1;go_wp2_with fail;go_ret;exact a.out _ b.out
 have e1:=RG.2 h1
 by_cases h2:M.ph=2
 ·have e2:=beq_iff_eq.2 h2;have b:Hid (lN M.ph=[111,112,101,110,105,110,103]):=by show _=_;unfold lN;rw[RD h1,RF h2]
  clear h1 h2;go_wp2_with fail;go_ret;exact a.out _ b.out
 have e2:=RG.2 h2
 by_cases h3:M.ph=3
 ·have o:=beq_iff_eq.2 h3;have b:Hid (lN M.ph=[116,114,97,100,105,110,103]):=by show _=_;unfold lN;rw[RD h1,RD h2,RF h3]
  clear h1 h2 h3;go_wp2_with fail;go_ret;exact a.out _ b.out
 have o:=RG.2 h3
 by_cases c:M.ph=4
 ·have p:=beq_iff_eq.2 c;have b:Hid (lN M.ph=[118,111,108,97,116,105,108,105,116,121]):=by show _=_;unfold lN;rw[RD h1,RD h2,RD h3,RF c]
  clear h1 h2 h3 c;go_wp2_with fail;go_ret;exact a.out _ b.out
 have p:=RG.2 c
 by_cases d:M.ph=5
 ·have q:=beq_iff_eq.2 d;have b:Hid (lN M.ph=[99,108,111,115,105,110,103]):=by show _=_;unfold lN;rw[RD h1,RD h2,RD h3,RD c,RF d]
  clear h1 h2 h3 c d;go_wp2_with fail;go_ret;exact a.out _ b.out
 have q:=RG.2 d
 by_cases f:M.ph=6
 ·have r:=beq_iff_eq.2 f;have b:Hid (lN M.ph=[104,97,108,116]):=by show _=_;unfold lN;rw[RD h1,RD h2,RD h3,RD c,RD d,RF f]
  clear h1 h2 h3 c d f;go_wp2_with fail;go_ret;exact a.out _ b.out
 have r:=RG.2 f;have b:Hid (lN M.ph=[101,110,100,101,100]):=by show _=_;unfold lN;rw[RD h1,RD h2,RD h3,RD c,RD d,RD f]
 clear h1 h2 h3 c d f;go_wp2_with fail;go_ret;exact a.out _ b.out
def aQv(la:Option J_)(cl:Nat)(l:List Int)(lo sb n:Nat)(x:gP)(H:aY)(M:aG)(w:C_)(h:bA w lo sb x H n)(d:H.aX=A_ M)(y:lY w):
  Sj prog 49 #[E (A_ ⟨sb,0,B_⟩),J la l.length cl] w λe w'=>jC w w' lo sb n (bq 11 l H) e:=by
 have C:Hid (bq 11 l H=((gH 11 l M).1,{ H with aX:=A_ (gH 11 l M).2 })):=wH d7 l d;have B:=ah h;have D:=ah d;have F:=ah y;have N:=h.aX d;obtain⟨m,v,_⟩:=h.eg M d;have HE:=ah m;have c:=v.la;obtain⟨s,t,u⟩:=aHa m.qV m.wK c;clear h d y m v;go_enter func49,ntmps49;go_wp2_with fail;refine(La x.eb x.k M w HE.out c).mono ?_;rintro e w1 ⟨rfl,g⟩;have o:=ah g;have r:Hid (lQ [(kR M).price,(kR M).ak,(kR M).jN]=(gH 11 l M).1.2):=rfl;unfold IG;generalize kR M=q at s t u r⊢;clear g c;go_upto_region 2 with fail;have f:=RU w1 (R #[U G q.price,U G q.ak,U G q.jN] 123);have a:Hid (Sd w.heap.size w (w1.alloc (R #[U G q.price,U G q.ak,U G q.jN] 123))):=aJ o.out (aM w1 _);generalize w1.alloc (R #[U G q.price,U G q.ak,U G q.jN] 123)=W at f a⊢;have I:=aj (j:=0) f rfl;have K:=aj (j:=1) f rfl;have L:=aj (j:=2) f rfl;clear f;go_wp2_with fail;have b:=aM W (R #[U G q.price,U G q.ak,U G q.jN] 3)
 refine(Bp W.heap.size 0 3 [q.price,q.ak,q.jN] _ (BL W [q.price,q.ak,q.jN] 3) (λz A=>by
  simp only[SB,Ud,or_false]at A;rcases A with rfl|rfl|rfl
  ·exact s
  ·exact t
  ·exact u) s7 s7 ((F.out.below a.out).below b)).mono ?_
 rintro e w3 ⟨rfl,i⟩;have p:=ah (aJ a.out (aJ b i));clear b i I K L;go_wp2_with fail;go_ret;rw[C.out];refine B.out.asks D.out p.out ?_;exact RP ⟨rfl,by rw[r.out];rfl⟩
def aQw(la:Option J_)(cl:Nat)(l:List Int)(lo sb n:Nat)(x:gP)(H:aY)(M:aG)(w:C_)(h:bA w lo sb x H n)(c:H.aX=A_ M)(m:lY w):
  Sj prog 50 #[E (A_ ⟨sb,0,B_⟩),J la l.length cl] w λe w'=>jC w w' lo sb n (bq 12 l H) e:=by
 have q:Hid (bq 12 l H=((gH 12 l M).1,{ H with aX:=A_ (gH 12 l M).2 })):=wH d7 l c;have p:=ah h;have r:=ah c;have s:=ah m;have v:=h.aX c;obtain⟨j,i,_⟩:=h.eg M c;have HE:=ah j;have t:dN M.an:=mF (by have:=i.an;omega);have u:dN M.la:=mF (by have:=i.la;omega);clear h c m j i;go_enter func50,ntmps50;go_wp2_with fail;refine(aR8 x.eb x.k M w HE.out).mono ?_;rintro e w1 ⟨rfl,d⟩;have b:=ah d;clear d;go_wp2_with fail;have a:=aM w1 (R #[U G M.an,U G M.la] 3)
 refine(Bp w1.heap.size 0 2 [M.an,M.la] _ (BL w1 [M.an,M.la] 3) (λz o=>by
  simp only[SB,Ud,or_false]at o;rcases o with rfl|rfl
  ·exact t
  ·exact u) s7 s7 ((s.out.below b.out).below a)).mono ?_
 rintro e w3 ⟨rfl,f⟩;have g:=ah (aJ b.out (aJ a f));clear a f;go_wp2_with fail;go_ret;rw[q.out];exact p.out.asks r.out g.out (fZ.yes rfl)
def aQs(la:Option J_)(cl:Nat)(l:List Int)(lo sb n:Nat)(x:gP)(H:aY)(M:aG)(w:C_)(h:bA w lo sb x H n)(c:H.aX=A_ M)(r:lY w):
  Sj prog 52 #[E (A_ ⟨sb,0,B_⟩),J la l.length cl] w λe w'=>jC w w' lo sb n (bq 14 l H) e:=by
 have t:Hid (bq 14 l H=((gH 14 l M).1,{ H with aX:=A_ (gH 14 l M).2 })):=wH d7 l c;have s:=ah h;have u:=ah c;have z:=ah r;have B:=h.aX c;obtain⟨o,m,_⟩:=h.eg M c;have HE:=ah o;have y:=ah (m.p);have A:M.P.length<=1000:=by have:=m.few;omega
 clear h c r o m;go_enter func52,ntmps52;go_wp2_with fail;refine(aR6 x.eb x.k M w HE.out o7).mono ?_;rintro e w1 ⟨v,rfl,q,d⟩;have b:=ah d;obtain⟨a,cap,rfl,g⟩:=jV.pI q;have j:=ah g;clear d q g;go_wp2_with fail;refine(aA2 a cap M.P w1 j.out y.out A (z.out.below b.out)).mono ?_;rintro e w3 ⟨rfl,f⟩;have i:=ah (aJ b.out f);clear f;go_wp2_with fail;go_ret;rw[t.out];exact s.out.asks u.out i.out (fZ.yes rfl)
end Go.Proofs.YtpodibeogglplaaGreatDoor
