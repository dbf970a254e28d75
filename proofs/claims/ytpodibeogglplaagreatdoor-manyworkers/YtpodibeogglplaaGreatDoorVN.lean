/- ManyWorkers -/
import Derived.Test.YtpodibeogglplaaGreatDoorVM
open Array renaming getElem?_eq_some_iff->Sb, ext_getElem?->Vg, getElem?_eq_none->Te, map_congr_left->Tw, sizeOf_lt_of_mem->YS, getElem?_eq_getElem->Tf, map_map->Vt, getElem?_map->VL, getElem?_extract->YR, mem_of_getElem?->Ut
open Bool renaming true->G_, false_eq_true->SE, false->E_
open Classical renaming byContradiction->SL, choose->ZJ, choose_spec->Xh
open Go renaming World->C_, Program->TB, Value->D_, Event->K_, Frame->I_, Question->UD, doReturn->Yy, Addr->J_
open Go.Frame renaming enter->Ur
open Go.FrameMode.panicking renaming injEq->ZR
open Go.GStep.go renaming injEq->r_
open Go.Goroutine.mk renaming injEq->Xl
open Go.Sem renaming runT->Tm
open Go.Stepped.next renaming injEq->Za
open Go.World renaming freeze->VY, cell?->SS, farLoad->Zk, frozen?->WH, farStore->Wp
open List renaming append_nil->UK, map_congr_left->SF, map_map->Vs
open Nat renaming le_succ->Uk, lt_succ_self->ZN, le_refl->RQ, lt_of_lt_of_le->Sn, le_trans->RV
open Option renaming some->A_, none->B_, map_some->Si
open Option.some renaming injEq->Sk, inj->Uj
set_option linter.all false
set_option maxHeartbeats 1000000
namespace Go.Rn
variable {w1:C_} {p q:C_->Prop} {P:TB} {α:Type} {s:Sem α} {n:Nat} {W0 W:C_} {st:GoStatus} {dy:Option Dying} {g:Goroutine} {v:D_} {d:Deferred} {ρ:Ren} {β:Nat->Nat} {t:Target} {o:Obj} {k a b m:Nat} {e:K_} {c:List I_} {R:I_->List I_->C_->Prop} {H:Array Obj} {R':I_->List I_->C_->Prop} {ch:List PanicEntry} {Post:D_->C_->Prop} {args:Array D_} {σ:Ren} {β':Nat->Nat} {τ ω:Ren} {j G x y:Nat}
def Can.of{w:C_}(h:Can w1 p)(c:w.drawn<=w1.drawn)(b:∀i,i<w.drawn->w1.tape i=w.tape i)(a:∀τ,(∀i,i<w1.drawn->τ i=w1.tape i)->p { w1 with tape:=τ }->q { w with tape:=τ }):Can w q:=by
 obtain⟨τ,h1,h2⟩:=h;exact⟨τ,λi hi=>by rw[h1 i o7,b i hi],a τ h1 h2⟩
def Can.on{w:C_}(h:Can w1 p)(c:w1.drawn=w.drawn)(b:w1.tape=w.tape)(a:∀τ,p { w1 with tape:=τ }->q { w with tape:=τ }):Can w q:=
 h.of o7 (λi _=>by rw[b]) λτ _=>a τ
def Can.end{w:C_}(h:∀τ,p { w with tape:=τ }):Can w p:=⟨w.tape,λ_ _=>rfl,h _⟩
def aMe(h:Bad s):∀(w:C_) (es:Array K_),∃hh es1,s.runT P w es=(.halt hh w,es1)/\sw hh=G_/\∀v,hh≠.panic v:=by
 induction h with
 |stuck s=>intro w es;exact⟨_,_,rfl,rfl,by simp⟩
 |kV u h=>intro w es;exact⟨_,_,rfl,h,by simp⟩
 |mark m k _ ih=>intro w es;exact ih w _
def aHp{L:dW}{β:Type}{A:α->β->Prop}{s':Sem β}(h:aC P (fO L G_) A s s'):
  ∀(w W:C_) (es:Array K_) (Ψ:Result α×Array K_->Result β×Array K_->Prop),QA n W0 w W->
  (∀a b w1 m l,A a b->QA n W0 w1 m->Can w1 λw'=>Ψ (.ok a w',l) (.ok b m,l))->
  (∀v w1 m l,QA n W0 w1 m->Can w1 λw'=>Ψ (.halt (.panic v) w',l) (.halt (.panic v) m,l))->
  (∀hh w1 l y,sw hh=G_->(∀v,hh≠.panic v)->Ψ (.halt hh w1,l) y)->
  Can w λw'=>Ψ (s.runT P w' es) (s'.runT P W es):=by
 induction h with
 |pure ha=>intro w W es Ψ q h1 h2 h3;exact h1 _ _ w W es ha q
 |@halt hh hk=>
  intro w W es Ψ q h1 h2 h3;cases hh with
  |panic v=>
   simp only[halt,pU];exact h2 v w W es q
  |_=>exact Can.end λτ=>h3 _ _ _ _ hk s7
 |bad a hb=>
  intro w W es Ψ q h1 h2 h3;refine Can.end λτ=>?_
  obtain⟨hh,l,e,E,K⟩:=aMe (P:=P) hb { w with tape:=τ } es;simp only[e];exact h3 _ _ _ _ E K
 |nil a=>cases a
 |xu a=>cases a
 |uT a=>cases a
 |vD a _ ih=>intro w W es Ψ q h1 h2 h3;exact ih _ w W es Ψ q h1 h2 h3
 |wN a _ ih=>intro w W es Ψ q h1 h2 h3;exact ih _ w W es Ψ q h1 h2 h3
 |@bH qu k s' n' a j z hk ih=>
  intro w W es Ψ q h1 h2 h3;obtain⟨t,z⟩:=z;have:=ih { w with drawn:=w.drawn+1,tape:=λi=>if i=w.drawn then λ_=>t else w.tape i } W es Ψ ⟨q.size,q.blk,q.np,q.ny,q.os,q.qA,q.out,q.old⟩ h1 h2 h3;refine this.of (Uk _) (λi hi=>by simp[show i≠w.drawn by omega]) λτ hτ hp=>?_
  have e:τ w.drawn=λ_=>t:=by rw[hτ w.drawn (ZN _)];simp
  simp only[Tm,j,SE,if_false,e,z];exact hp
 |@choose qu k k' hk ih=>
  intro w W es Ψ q h1 h2 h3
  by_cases j:qu.forced=G_
  ·simp only[Tm,j,if_true];exact ih 0 w W es Ψ q h1 h2 h3
  ·have:=ih (qu.cut (W.tape W.drawn qu)) { w with drawn:=w.drawn+1,tape:=λi=>if i=w.drawn then W.tape W.drawn else w.tape i } { W with drawn:=W.drawn+1 } es Ψ ⟨q.size,q.blk,q.np,q.ny,q.os,q.qA,q.out,q.old⟩ h1 h2 h3;refine this.of (Uk _) (λi hi=>by simp[show i≠w.drawn by omega]) λτ hτ hp=>?_
   have e:τ w.drawn=W.tape W.drawn:=by rw[hτ w.drawn (ZN _)];simp
   simp only[Tm,j,SE,if_false,e];exact hp
 |program _ ih=>intro w W es Ψ q h1 h2 h3;exact ih w W es Ψ q h1 h2 h3
 |mark _ _ ih=>intro w W es Ψ q h1 h2 h3;exact ih w W _ Ψ q h1 h2 h3
 |sys _ ih=>
  intro w W es Ψ q h1 h2 h3;simp only[Tm,Jt];rw[q.os];exact ih (.strings w.os.env) w W _ Ψ q h1 h2 h3
 |@shape r k k' _ hk ih=>
  intro w W es Ψ q h1 h2 h3;have e:=q.shape r;refine(ih (w.shape? r) w W es Ψ q h1 h2 h3).on rfl rfl λτ hp=>?_
  have C:W.shape? ((fO L G_).b r)=w.shape? r:=e;simp only[Tm,C];exact hp
 |@frozen a k k' _ hk ih=>
  intro w W es Ψ q h1 h2 h3;exact ih (w.frozen? a) (W.frozen? a) (λe=>by cases e) (q.frozen a) w W es Ψ q h1 h2 h3
 |@freeze a c k _ _ hk ih=>
  intro w W es Ψ q h1 h2 h3;have z:∀τ,VY { w with tape:=τ } a c={ w.freeze a c with tape:=τ }:=by intro τ;unfold VY;split<;>rfl
  refine(ih _ _ es Ψ (q.freeze a c) h1 h2 h3).on (by unfold VY;split<;>rfl) (by unfold VY;split<;>rfl) λτ hp=>?_
  show Ψ (k.runT P (VY { w with tape:=τ } a c) es) _;rw[z];exact hp
 |@load mo a k k' hk ih=>
  intro w W es Ψ q h1 h2 h3;have e:=q.cell a;have e2:W.cell? (addr (fO L G_) a)=w.cell? a:=e;cases hc:w.cell? a with
  |some v=>
   refine(ih v w W (es.push ⟨.cell a,E_,mo == .atomic⟩) Ψ q h1 h2 h3).on rfl rfl λτ hp=>?_
   have d:SS { w with tape:=τ } a=A_ v:=hc;simp only[Tm,d,e2,hc];rw[pU]at hp;exact hp
  |none=>
   cases j:w.farLoad P a (mo == .atomic)with
   |error hh=>
    have hk:=Li q.np a _ j;refine Can.end λτ=>?_
    have d:SS { w with tape:=τ } a=B_:=hc;have g:Zk P { w with tape:=τ } a (mo == .atomic)=.error hh:=j;simp only[Tm,d,g];exact h3 _ _ _ _ hk.1 hk.2
   |ok r=>
    obtain⟨v,t⟩:=r;refine(ih v w W (es++t.toArray.map (⟨.cell ·,E_,mo == .atomic⟩)) Ψ q h1 h2 h3).on rfl rfl λτ hp=>?_
    have d:SS { w with tape:=τ } a=B_:=hc;have g:Zk P { w with tape:=τ } a (mo == .atomic)=.ok (v,t):=j;have p:W.farLoad P (addr (fO L G_) a) (mo == .atomic)=.ok (v,t):=aTi q a _ j;simp only[Tm,d,g,e2,hc,p];rw[pU]at hp;exact hp
 |@store mo a v k k' hk ih=>
  intro w W es Ψ q h1 h2 h3;rw[pU,aLb];cases hv:tQ v with
  |true=>
   refine Can.end λτ=>?_
   obtain⟨u,e⟩:=aIo hv;rw[e];exact h3 _ _ _ _ rfl s7
  |false=>
   cases hc:w.cell? a with
   |some x=>
    cases j:w.frozen? a with
    |true=>
     refine Can.end λτ=>?_
     have d:SS { w with tape:=τ } a=A_ x:=hc;have g:WH { w with tape:=τ } a=G_:=j;obtain⟨u,e⟩:=aIq (P:=P) (mo:=mo) (k:=k) (es:=es) hv d g;rw[e];exact h3 _ _ _ _ rfl s7
    |false=>
     refine(ih (w.setCell a v) (W.setCell a v) (es.push ⟨.cell a,G_,mo == .atomic⟩) Ψ (q.store hc j) h1 h2 h3).on rfl rfl λτ hp=>?_
     have d:SS { w with tape:=τ } a=A_ x:=hc;have g:WH { w with tape:=τ } a=E_:=j;have F:W.cell? a=A_ x:=by rw[q.cell,hc]
     have p:W.frozen? a=E_:=by
      cases p:W.frozen? a with
      |false=>rfl
      |true=>rw[q.frozen a p]at j;cases j
     rw[Jo hv d g,Jo hv F p];exact hp
   |none=>
    cases j:w.farStore P a v (mo == .atomic)with
    |error hh=>
     have hk:=Ll q.np a _ _ j;refine Can.end λτ=>?_
     have d:SS { w with tape:=τ } a=B_:=hc;have g:Wp P { w with tape:=τ } a v (mo == .atomic)=.error hh:=by rw[aBw,j];rfl
     rw[aIp hv d g];exact h3 _ _ _ _ hk.1 hk.2
    |ok r=>
     obtain⟨w1,t⟩:=r;obtain⟨m,p,O,z,M⟩:=aTn q a v _ j;refine(ih w1 m (es++t.toArray.map (⟨.cell ·,G_,mo == .atomic⟩)) Ψ O h1 h2 h3).on M z λτ hp=>?_
     have d:SS { w with tape:=τ } a=B_:=hc;have g:Wp P { w with tape:=τ } a v (mo == .atomic)=.ok ({ w1 with tape:=τ },t):=by rw[aBw,j];rfl
     have F:W.cell? a=B_:=by rw[q.cell,hc]
     rw[Jp hv d g,Jp hv F p];exact hp
 |@new o k k' ho hk ih=>
  intro w W es Ψ q h1 h2 h3;have:=ih w.heap.size rfl { w with heap:=w.heap.push o } { W with heap:=W.heap.push o } es Ψ (q.more ho) h1 h2 h3;refine this.on rfl rfl λτ hp=>?_
  rw[Eb];simp only[Tm,q.size];exact hp
 |@getObj r k k' hk ih=>
  intro w W es Ψ q h1 h2 h3;cases hb:w.heap[r]? with
  |none=>
   refine Can.end λτ=>?_
   simp only[Tm,hb];exact h3 _ _ _ _ rfl s7
  |some o=>
   obtain⟨o',e,G⟩:=q.blk r o hb;have hn:=q.np r o hb;have C:W.heap[(fO L G_).b r]? = A_ o':=e;rcases G with rfl|⟨c,B,f,f',rfl,rfl,_⟩
   ·have:=ih o' hn w W (es.push ⟨.obj r,E_,o'.isChan⟩) Ψ q h1 h2 h3;refine this.on rfl rfl λτ hp=>?_
    rw[Eb]at hp;cases o' with
    |cells c B f=>simp only[Tm,hb];exact h3 _ _ _ _ rfl s7
    |_=>simp only[Tm,hb,C];exact hp
   ·refine Can.end λτ=>?_
    simp only[Tm,hb];exact h3 _ _ _ _ rfl s7
 |@setObj r o k k' ho hk ih=>
  intro w W es Ψ q h1 h2 h3;cases hb:w.heap[r]? with
  |none=>
   refine Can.end λτ=>?_
   simp only[Tm,hb];exact h3 _ _ _ _ rfl s7
  |some x=>
   by_cases D:∃c B f,x=.cells c B f
   ·obtain⟨c,B,f,rfl⟩:=D;refine Can.end λτ=>?_
    simp only[Tm,hb];exact h3 _ _ _ _ rfl s7
   ·obtain⟨o',e,G⟩:=q.blk r x hb;have C:W.heap[(fO L G_).b r]? = A_ o':=e;have N:=(Sb.1 hb).1;rcases G with rfl|⟨c,B,f,f',E,_⟩
    ·have:=ih { w with heap:=w.heap.setIfInBounds r o } { W with heap:=W.heap.setIfInBounds r o } (es.push ⟨.obj r,G_,o.isChan⟩) Ψ (q.turn N (.inl rfl) ho λH=>by
      exfalso;obtain⟨Q,e2,S,J,R,I,_⟩:=q.old r H;rw[hb]at I;cases I;exact D ⟨_,_,_,rfl⟩) h1 h2 h3
     refine this.on rfl rfl λτ hp=>?_
     rw[Eb];cases o' with
     |cells c B f=>exact absurd ⟨_,_,_,rfl⟩ D
     |_=>simp only[Tm,hb,C];exact hp
    ·exact absurd ⟨_,_,_,E⟩ D
def aK1{L:dW}:rO Can (λ_=>True) P (fO L G_) (QA n W0) where
 mY:=aE5
 two:=by
  intro α β γ δ A B s s' f f' w W h hk _ q;refine aHp h w W #[] (λx y=>Fq (λ_=>True) P (fO L G_) (QA n W0) A B f f' x y) q ?_ ?_ ?_
  ·intro a b w1 i e p d;refine Fg.mono aE5 (aHp (hk a b p) w1 i #[] (λx y=>Il x.1/\xM (λ_=>True) (fO L G_) (QA n W0) B x y) d ?_ ?_ ?_) λw' hp=>?_
   ·intro t r w2 k g m c;refine Can.end λτ=>⟨trivial,λ_=>.inr ⟨r,k,by rw[zL],m,⟨c.size,c.blk,c.np,c.ny,c.os,c.qA,c.out,c.old⟩⟩⟩
   ·intro v w2 k g c;refine Can.end λτ=>⟨rfl,λ_=>.inr ⟨k,by rw[zL,pU],⟨c.size,c.blk,c.np,c.ny,c.os,c.qA,c.out,c.old⟩⟩⟩
   ·intro o w2 g y j l;refine⟨j,?_⟩;unfold xM;cases o<;>first|exact absurd rfl (l _)|exact j
   ·exact⟨hp.1,λ_=>.inr ⟨b,i,by rw[zL],p,hp.2⟩⟩
  ·intro v w1 i e d;refine Can.end λτ=>λ_=>.inr ⟨i,by rw[zL,pU],⟨d.size,d.blk,d.np,d.ny,d.os,d.qA,d.out,d.old⟩⟩
  ·intro o w1 e y j l;unfold Fq;cases o<;>first|exact absurd rfl (l _)|exact j
def pz(P:TB)(fr:I_)(cs:List I_)(w:C_):GStep:=stepG P G_ { frame:=fr,callers:=cs,status:=.running,dying:=B_ } w
def bP(P:TB)(fr:I_)(cs:List I_)(w:C_)(fr':I_)(cs':List I_)(w':C_)(es:Array K_):Prop:=
 pz P fr cs w=.go { frame:=fr',callers:=cs',status:=.running,dying:=B_ } w' es
structure Well(P:TB)(L:dW)(fr:I_)(cs:List I_)(w:C_):Prop where
 nice:qJ L fr cs
 dom:∃fn,P.funcs[fr.fn]? = A_ fn
 bot:¬(cs=[]/\fr.defers=[]/\∃ch,fr.mode=.panicking ch)
 np:NP w
def IB{L:dW}(m n:Nat):PC (fO L E_) n n m:=⟨λ_ _ h=>h,λ_ h _=>h,λb h _=>by show b=n+(b - n);omega,λb h a _=>by show n+(m - n)<=b;omega,λ_ h=>(by cases h),λ_ h=>(by cases h),rfl⟩
def Ad{L:dW}(o:Option Obj):o.map (obj (fO L E_))=o:=by cases o<;>simp[Eb]
def OL{L:dW}(F:Fit P L (fO L E_))(G:rJ P L){fr fr':I_}{cs a:List I_}{w w':C_}{es:Array K_}(H:Well P L fr cs w)(h:bP P fr cs w fr' a w' es)(j:W.heap=w.heap)(ho:W.os=w.os){d0 D0:Nat}(f:W.drawn+d0=w.drawn+D0)(p:∀i,w.drawn+i<w'.drawn->W.tape (W.drawn+i)=w.tape (w.drawn+i)):
  ∃W',bP P fr cs W fr' a W' es/\QC (fO L E_) w.heap.size w.heap.size w'.drawn d0 D0 W w' W':=by
 have S:=xP (P:=P) (d:=w'.drawn) (d0:=d0) (D0:=D0) (W0:=W) (IB (L:=L) w'.heap.size w.heap.size)
 have q:QC (fO L E_) w.heap.size w.heap.size w'.drawn d0 D0 W w W:=
  ⟨RQ _,by rw[j],λb _ _=>by rw[j,Ad];rfl,λ_ h=>(by cases h),H.np,p,f,rfl,ho,rfl,rfl,λc r o=>rfl,λb n=>absurd rfl n⟩
 have h1:=xw F G ⟨_,F,rfl,rfl⟩ S (main:=G_) (C:=[]) s7 H.nice H.dom H.bot q;rw[wB,UK]at h1;have e:stepG P G_ { frame:=fr,callers:=cs,status:=.running,dying:=B_ } w=.go { frame:=fr',callers:=a,status:=.running,dying:=B_ } w' es:=h;rw[e]at h1;rcases h1 ⟨RQ _,RQ _⟩with ho|⟨hv,_⟩|⟨m,k,w2,l,e2,W',g,q'⟩
 ·obtain⟨_,d,f,_⟩:=ho;cases f
 ·cases hv
 ·cases e2;rw[wB,UK,zL]at g;exact⟨W',g,q'⟩
def sH{L:dW}(F:Fit P L (fO L E_))(G:rJ P L){fr fr':I_}{cs a:List I_}{w w':C_}{es:Array K_}(H:Well P L fr cs w)(h:bP P fr cs w fr' a w' es):
  w.heap.size<=w'.heap.size/\w.drawn<=w'.drawn/\NP w'/\w'.tape=w.tape/\w'.os=w.os/\w'.output=w.output:=by
 obtain⟨c,h1,q⟩:=OL F G H h rfl rfl (D0:=0) rfl (λ_ _=>rfl);obtain⟨d,h2,b⟩:=OL F G H h (W:={ w with drawn:=0,tape:=λi=>w.tape (w.drawn+i) }) rfl rfl (d0:=w.drawn) (D0:=0) s7 (λi _=>by simp);unfold bP at h h1;rw[h]at h1;cases h1;exact⟨q.le,by have:=b.dr;omega,q.su,q.ny,q.qA,q.out⟩
def OJ{L:dW}(F:Fit P L (fO L E_))(G:rJ P L){fr fr':I_}{cs a:List I_}{w w':C_}{es:Array K_}(H:Well P L fr cs w)(h:bP P fr cs w fr' a w' es)(τ:Nat->UD->Nat)(k:∀i,i<w'.drawn->τ i=w.tape i):bP P fr cs { w with tape:=τ } fr' a { w' with tape:=τ } es:=by
 obtain⟨c,h1,q⟩:=OL F G H h (W:={ w with tape:=τ }) rfl rfl (d0:=0) (D0:=0) rfl (λi hi=>k _ hi);obtain⟨_,_,_,_,k1,k2⟩:=sH F G H h
 have e:c={ w' with tape:=τ }:=by
  have e1:c.heap=w'.heap:=by
   have o:=q.size;apply Vg;intro b
   by_cases j:b<w'.heap.size
   ·have:=q.blk b j rfl;rw[Ad]at this;exact this
   ·rw[Te o7,Te o7]
  have e2:=q.ny;have g:=q.dr;have d:=q.os;have f:=q.out;obtain⟨a1,l,a3,m,n⟩:=c;simp only at e1 e2 g d f;subst e1 e2 d;rw[f];simp only[World.mk.injEq,true_and];exact⟨by omega,k2.symm⟩
 rw[<-e];exact h1
def fQ(fr:I_)(cs:List I_):CallKind:=((fr::cs).getLast s7).kind
def KK:GStep->Prop
 | .go g _ _=>g.dying=B_->g.status=.running->fQ g.frame g.callers=.normal
 |_=>True
def zk(es:Array K_)(x:GStep):KK (GStep.after es x)↔KK x:=by cases x<;>exact Iff.rfl
def DR{fr fr':I_}{cs:List I_}(h:fr'.kind=fr.kind):fQ fr' cs=fQ fr cs:=Mv cs h
def uZ{fr fr':I_}{cs:List I_}:fQ fr' (fr::cs)=fQ fr cs:=by simp[fQ]
def aDx{fr:I_}{cs:List I_}:∀{fr':I_} {ds:List I_},fQ fr' (ds++fr::cs)=fQ fr cs
 |_,[]=>uZ
 |_,_::_=>uZ.trans aDx
def jE{fr fr':I_}{cs:List I_}{w:C_}{es:Array K_}(h:fQ fr cs=.normal)(hk:fr'.kind=fr.kind):KK (.go { frame:=fr',callers:=cs,status:=st,dying:=dy } w es):=λ_ _=>(DR hk).trans h
def Qa{w:C_}{es:Array K_}(h:g.dying≠B_):KK (.go g w es):=λh0=>absurd h0 h
def xL{w:C_}{es:Array K_}(h:g.status≠.running):KK (.go g w es):=λ_ h0=>absurd h0 h
def aKx{b:Bool}{x y:GStep}(a:KK x)(c:KK y):KK (if b=G_ then x else y):=by split<;>assumption
def aKy{fr:I_}{w:C_}{es:Array K_}(h:fr.kind=.normal):KK (.go { frame:=fr,callers:=[],status:=st,dying:=dy } w es):=λ_ _=>h
def Dr(fr:I_)(v:D_):(fr.finish v).kind=fr.kind:=by unfold Frame.finish;split<;>rfl
def Cc(fr:I_)(vs:List PanicEntry):(fr.raise vs).kind=fr.kind:=by unfold Frame.raise;split<;>rfl
def JA:∀(cs:List I_) (fr:I_) (v:D_) (a:List I_),tryRecover fr cs=A_ (v,a)->fQ fr a=fQ fr cs:=by
 intro cs
 induction cs with
 |nil=>intro fr v a h;unfold tryRecover at h;split at h<;>simp_all
 |cons c cs ih=>
  intro fr v a h;unfold tryRecover at h;split at h
  ·next e=>
   cases e;split at h
   ·cases h;rw[uZ,uZ];exact DR rfl
   ·cases h
  ·next e=>
   cases e;cases hr:tryRecover c cs with
   |none=>rw[hr]at h;cases h
   |some r=>
    rw[hr]at h;obtain⟨v1,b⟩:=r;cases h;rw[uZ,uZ];exact ih c _ _ hr
  ·cases h
def bHr:∀(cs:List I_) (fr:I_) (l:Nat) (v:D_) (a:List I_),tryRecoverLoop l cs=A_ (v,a)->fQ fr a=fQ fr cs:=by
 intro cs
 induction cs with
 |nil=>intro fr l v a h;cases h
 |cons c cs ih=>
  intro fr l v a h;unfold tryRecoverLoop at h
  have d:∀o:Option (D_×List I_),(∀v1 b,o=A_ (v1,b)->fQ c b=fQ c cs)->o.map (λx=>(x.1,c::x.2))=A_ (v,a)->fQ fr a=fQ fr (c::cs):=by
   intro o ho h;cases o with
   |none=>cases h
   |some r=>
    obtain⟨v1,b⟩:=r;cases h;rw[uZ,uZ];exact ho _ _ rfl
  refine d _ ?_ h;intro v1 b e;split at e
  ·exact ih _ _ _ _ e
  ·split at e
   ·exact JA _ _ _ _ e
   ·exact ih _ _ _ _ e
  ·exact ih _ _ _ _ e
def FW(fr:I_)(a:List ByteArray)(m:String)(b:Bool)(w:C_):KK (dieOf fr a m b w):=λh=>by cases h
def aBj(fr:I_)(cs:List I_)(m:String)(w:C_):KK (endFatal P fr cs B_ m w):=by
 unfold endFatal;dsimp only;split
 ·exact FW _ _ _ _ _
 ·trivial
 ·trivial
def aRr{fr:I_}{cs:List I_}{g:Nat}{w:C_}(h:fQ fr cs=.normal):KK (early P fr cs B_ g w):=by
 have hn:∀w':C_,KK (match w'.heap[g]? with
  |some (.pending c elem)=>.go { frame:=fr,callers:=cs,status:=.running,dying:=B_ } { w' with heap:=w'.heap.setIfInBounds g (.cells c elem) }
  |_=>.ended (.stuck "early: the variable does not wait" (fr.pos P)) w'):=by
  intro w';split
  ·exact λ_ _=>h
  ·trivial
 unfold early
 repeat'(first|exact trivial|exact hn _|exact λ_ _=>aDx.trans h|split)
def KU{main:Bool}{fr:I_}{cs:List I_}{w:C_}(h:fQ fr cs=.normal):KK (Yy P main fr cs B_ v w):=by
 unfold Yy;cases cs with
 |nil=>
  simp only
  repeat'(first|exact trivial|(refine Qa ?_;intro h0;cases h0;done)|(refine xL ?_;intro h0;cases h0;done)|exact aKy rfl|split)
 |cons c cs=>
  rw[uZ]at h;simp only
  repeat'(first|exact trivial|exact jE h rfl|exact jE h (Dr _ _)|exact jE h rfl|split)
def Qv{fr:I_}{cs:List I_}{s:Sem Next}{w:C_}(h:fQ fr cs=.normal):KK (stepG.apply P G_ fr cs B_ s w):=by
 unfold stepG.apply;simp only[if_true];generalize s.runT P w #[]=x;obtain⟨r,es⟩:=x;rw[zk];cases r with
 |ok a w1=>
  cases a<;>simp only
  case recover=>
   split
   ·next v cs' e=>
    intro _ _
    have:fQ fr cs'=fQ fr cs:=by
     split at e
     ·split at e
      ·exact JA _ _ _ _ e
      ·exact bHr _ _ _ _ _ e
     ·exact JA _ _ _ _ e
    exact(DR (Dr _ _)).trans (this.trans h)
   ·exact jE h (Dr _ _)
  all_goals repeat'(first|exact trivial|exact FW _ _ _ _ _|(refine xL ?_;intro h0;cases h0;done)|exact jE h rfl|exact jE h (Dr _ _)|exact KK_push h|exact jE h rfl|split)
 |halt hh w1=>
  cases hh with
  |unsupported u=>cases u<;>first|exact trivial|exact aRr h
  |fatal m=>exact aBj _ _ _ _
  |throw m=>exact FW _ _ _ _ _
  |panic v=>exact jE h (Cc _ _)
  |goexit=>exact jE h (Cc _ _)
  |blocked=>(refine xL ?_;intro h0;cases h0;done)
  |waiting=>(refine xL ?_;intro h0;cases h0;done)
  |_=>exact trivial
def aNo{fr:I_}{cs:List I_}{w:C_}(h:fQ fr cs=.normal):KK (callDeferred P fr cs B_ d w):=by
 unfold callDeferred;refine aKx trivial ?_;simp only;generalize(invoke d.target d.args).runT P w #[]=x;obtain⟨r,es⟩:=x;rw[zk];cases r with
 |ok a w1=>
  cases a
  case recover=>
   simp only;split
   ·next e=>
    intro _ _;exact(JA _ _ _ _ e).trans h
   ·exact λ_ _=>h
  case coroswitch c x=>cases x<;>exact trivial
  case alone x v=>cases x<;>exact trivial
  all_goals repeat'(first|exact trivial|(refine xL ?_;intro h0;cases h0;done)|exact jE h rfl|exact KK_push h|split)
 |halt hh w1=>
  cases hh with
  |fatal m=>exact aBj _ _ _ _
  |throw m=>exact FW _ _ _ _ _
  |panic v=>exact jE h (Cc _ _)
  |goexit=>exact jE h (Cc _ _)
  |blocked=>(refine xL ?_;intro h0;cases h0;done)
  |waiting=>(refine xL ?_;intro h0;cases h0;done)
  |_=>exact trivial
def aJx{fr:I_}{cs:List I_}{w:C_}(h:fQ fr cs=.normal):KK (unwind P G_ fr cs B_ w):=by
 unfold unwind;split
 ·simp only;rw[zk];split
  ·exact jE h rfl
  ·trivial
 ·next d ds _ _=>
  exact aNo ((DR (fr:=fr) (fr':={ fr with defers:=ds }) rfl).trans h)
 ·split
  ·trivial
  ·split
   ·trivial
   ·split
    ·rw[uZ]at h;exact jE h (Cc _ _)
    ·simp only
     repeat'(first|exact trivial|(refine Qa ?_;intro h0;cases h0;done)|(refine xL ?_;intro h0;cases h0;done)|split)
  ·split
   ·exact KU h
   ·generalize(results _ fr.tmps).runT P w #[]=x;obtain⟨r,es⟩:=x;rw[zk]
    repeat'(first|exact trivial|exact KU h|split)
def bA4{fr:I_}{cs:List I_}{w:C_}(h:fQ fr cs=.normal):KK (stepG.oper P G_ fr cs B_ w):=by
 unfold stepG.oper
 repeat'(first|exact trivial|exact Qv h|split)
def aS8{fr:I_}{cs:List I_}{w:C_}(h:fQ fr cs=.normal):KK (stepG.exec P G_ G_ fr cs B_ w):=by
 have g:∀{fr':I_} {s:Sem Next} {w':C_},fr'.kind=fr.kind->KK (stepG.apply P G_ fr' cs B_ s w'):=λhk=>Qv ((DR hk).trans h)
 have e:∀(es:Array K_) (r:Result D_) (p:String),KK (GStep.after es (match r with| .ok v w=>Yy P G_ fr cs B_ v w| .halt _ w=>.ended (.stuck "range over a function: no such loop" p) w)):=by
  intro es r p;rw[zk];cases r
  ·exact KU h
  ·trivial
 unfold stepG.exec;simp only;cases ht:fr.todo with
 |nil=>
  simp only
  repeat'(first|exact trivial|exact jE h rfl|exact e _ _ _|split)
 |cons x k=>
  cases x with
  |code c=>
   cases c with
   |exit i=>cases exitTo i k<;>simp only[Option.elim]<;>repeat'(first|exact trivial|exact jE h rfl|exact e _ _ _|split)
   |goto i=>cases gotoIn i k<;>simp only[Option.elim]<;>repeat'(first|exact trivial|exact jE h rfl|exact e _ _ _|split)
   |rangeFunc f ps a b=>
    simp only;rw[zk];split
    ·exact g rfl
    ·trivial
   |_=>
    simp only
    repeat'(first|exact trivial|exact jE h rfl|exact e _ _ _|split)
  |extern r a=>
   simp only;cases Extern.next r<;>simp only[Option.elim]
   ·trivial
   ·exact g rfl
  |call d w r s=>exact g rfl
  |beginRound=>exact g rfl
  |endRangeFunc l=>
   simp only;rw[zk];split
   ·exact jE h rfl
   ·exact jE h (Cc _ _)
   ·trivial
  |inRegion ops l=>
   cases l with
   |nil=>exact jE h rfl
   |cons i l=>
    simp only
    repeat'(first|exact bA4 h|exact jE h (Dr _ _)|split)
  |_=>
   repeat'(first|exact trivial|exact jE h rfl|exact e _ _ _|split)
def aIl{fr fr':I_}{cs a:List I_}{w w':C_}{es:Array K_}(h:fQ fr cs=.normal)(e:bP P fr cs w fr' a w' es):fQ fr' a=.normal:=by
 have hk:KK (pz P fr cs w):=by
  unfold pz stepG;simp only;cases fr.mode
  ·exact aS8 h
  ·exact aJx h
  ·exact aJx h
 unfold bP at e;rw[e]at hk;exact hk rfl rfl
def bf(ρ:Ren)(b:Nat->Nat):Ren:={ ρ with b:=b,wb:=b }
def mR{f:α->α}{a:Array α}(h:a.map f=a):∀x∈a,f x=x:=by
 have:a.toList.map f=a.toList:=by rw[<-Array.toList_map,h]
 intro x b;exact qW this x (Array.mem_toList_iff.2 b)
def zq{f:α->α}{a:Array α}(h:∀x∈a,f x=x):a.map f=a:=by
 conv=>rhs;rw[<-Array.map_id' a]
 exact Tw h
def BK{f:α->α}{a:List α}(h:∀x∈a,f x=x):a.map f=a:=by
 conv=>rhs;rw[<-List.map_id' a]
 exact SF h
def Ig(c:∀b,ρ.b b=b->β b=b){a:Option J_}(h:a.map (addr ρ)=a):a.map (addr (bf ρ β))=a:=by
 cases a with
 |none=>rfl
 |some a=>
  simp only[Si,Sk]at h⊢;have:=RJ Addr.block h;have:=c _ this;show({ a with block:=β a.block }:J_)=a;rw[this]
def Ir(c:∀b,ρ.b b=b->β b=b){a:Option Nat}(h:a.map ρ.b=a):a.map (bf ρ β).b=a:=by
 cases a with
 |none=>rfl
 |some a=>
  simp only[Si,Sk]at h⊢;exact c _ h
def aCa(a:∀b,ρ.b b=b->β b=b){g:Fn}(h:fn ρ g=g):fn (bf ρ β) g=g:=by
 cases g with
 |yield l=>
  simp only[fn,Fn.yield.injEq]at h⊢;exact a _ h
 |_=>exact h
def xC(hb:∀b,ρ.b b=b->β b=b)(v:D_)(h:val ρ v=v):val (bf ρ β) v=v:=by
 match v with
 | .pointer a=>
  simp only[dI,Value.pointer.injEq]at h⊢;exact Ig hb h
 | .slice a l c=>
  simp only[gD,Value.slice.injEq,and_true]at h⊢;exact Ig hb h
 | .map r=>
  simp only[gT,Value.map.injEq]at h⊢;exact Ir hb h
 | .chan r=>
  simp only[iY,Value.chan.injEq]at h⊢;exact Ir hb h
 | .func g first captured=>
  simp only[gM,Value.func.injEq]at h⊢;refine⟨aCa hb h.1,zq λx hx=>xC hb x (mR h.2.1 x hx),zq λx hx=>xC hb x (mR h.2.2 x hx)⟩
 | .iface t v=>
  simp only[fM,Value.iface.injEq,true_and]at h⊢;exact xC hb v h
 | .agg cs=>
  simp only[fq,Value.agg.injEq]at h⊢;exact zq λx hx=>xC hb x (mR h x hx)
 | .tuple cs=>
  simp only[gN,Value.tuple.injEq]at h⊢;exact zq λx hx=>xC hb x (mR h x hx)
 | .bool b=>simp
 | .int k n=>simp
 | .float k n=>simp
 | .complex k n m=>simp
 | .string s=>simp
 | .nilFunc=>simp
 | .nilIface=>simp
 termination_by SizeOf.sizeOf v
 decreasing_by
  all_goals simp_wf
  all_goals first|(have:=YS hx;omega)|omega
def xE(a:∀b,ρ.b b=b->β b=b){c:Array D_}(h:vals ρ c=c):vals (bf ρ β) c=c:=zq λx d=>xC a x (mR h x d)
def bHc(d:∀b,ρ.b b=b->β b=b)(h:target ρ t=t):target (bf ρ β) t=t:=by
 cases t with
 |fn f c=>
  simp only[target,Target.fn.injEq]at h⊢;exact⟨aCa d h.1,xE d h.2⟩
 |collected r=>
  simp only[target,Target.collected.injEq]at h⊢;exact d _ h
 |coroexit c=>
  simp only[target]at h⊢
  by_cases hp:ρ.bad .print=G_
  ·rw[RF hp]at h;cases h
  ·have e:¬(bf ρ β).bad .print=G_:=hp;rw[RD hp]at h;rw[RD e];simp only[Target.coroexit.injEq]at h⊢;exact d _ h
 |nil=>rfl
 |builtin b a t c=>exact h
def FV(c:∀b,ρ.b b=b->β b=b)(h:deferred ρ d=d):deferred (bf ρ β) d=d:=by
 obtain⟨t,a⟩:=d;simp only[deferred,Deferred.mk.injEq]at h⊢;exact⟨bHc c h.1,xE c h.2⟩
def aFx(g:∀b,ρ.b b=b->β b=b)(h:obj ρ o=o):obj (bf ρ β) o=o:=by
 cases o with
 |cells c e f=>
  simp only[obj,Obj.cells.injEq,and_true]at h⊢;exact xE g h
 |pending c e=>
  simp only[obj,Obj.pending.injEq,and_true]at h⊢;exact xE g h
 |view a t=>
  simp only[obj,Obj.view.injEq,and_true]at h⊢;have:=Ig g (a:=A_ a) (by simp[h])
  simpa using this
 |number a l=>
  simp only[obj,Obj.number.injEq,and_true]at h⊢;have:=Ig g (a:=A_ a) (by simp[h])
  simpa using this
 |map es c=>
  simp only[obj,Obj.map.injEq,and_true]at h⊢;refine zq λx i=>?_
  have:=mR h x i;obtain⟨k,v⟩:=x;simp only[entry,MapEntry.mk.injEq,and_true]at this⊢;exact⟨xC g _ this.1,xC g _ this.2⟩
 |chan cap buf cl s r t=>
  simp only[obj,Obj.chan.injEq,and_true,true_and]at h⊢;exact xE g h
 |stringIter s p=>rfl
 |mapIter m s seen st=>
  simp only[obj,Obj.mapIter.injEq,and_true]at h⊢;exact Ir g h
 |loop l=>
  simp only[obj,Obj.loop.injEq]at h⊢;have h1:=RJ Loop.pending h;have h2:=RJ Loop.fn h;have h3:=RJ Loop.tmps h;have j:=RJ Loop.assign h;have n:=RJ Loop.body h;have q:=RJ Loop.defers h;unfold loop;rw[xE g h3,show(bf ρ β).b l.defers=l.defers from g _ q,show(bf ρ β).f l.fn=l.fn from h2,show(bf ρ β).c l.assign=l.assign from j,show(bf ρ β).c l.body=l.body from n,show l.pending.map (bf ρ β).c=l.pending from h1]
 |deferred cs=>
  simp only[obj,Obj.deferred.injEq]at h⊢;cases cs with
  |none=>rfl
  |some l=>
   simp only[Si,Sk]at h⊢;exact BK λx i=>FV g (qW h x i)
 |coro p=>rfl
 |finalizers fs r=>
  simp only[obj,Obj.finalizers.injEq,and_true]at h⊢;refine zq λx i=>?_
  have:=mR h x i;obtain⟨k,d⟩:=x;simp only[Prod.mk.injEq]at this⊢;exact⟨g _ this.1,FV g this.2⟩
def aWn(e:∀b,ρ.b b=b->β b=b){x:Item}(h:item ρ x=x):item (bf ρ β) x=x:=by
 cases x with
 |inRangeFunc l=>
  simp only[item,Item.inRangeFunc.injEq]at h⊢;exact e _ h
 |endRangeFunc l=>
  simp only[item,Item.endRangeFunc.injEq]at h⊢;exact e _ h
 |call d w r s=>
  simp only[item]at h⊢
  by_cases hp:ρ.bad .print=G_
  ·rw[RF hp]at h;cases h
  ·have c:¬(bf ρ β).bad .print=G_:=hp;rw[RD hp]at h;rw[RD c];simp only[Item.call.injEq,true_and]at h⊢;exact⟨FV e h.1,xE e h.2⟩
 |extern r a=>
  simp only[item]at h⊢
  by_cases hp:ρ.bad .print=G_
  ·rw[RF hp]at h;cases h
  ·have c:¬(bf ρ β).bad .print=G_:=hp;rw[RD hp]at h;rw[RD c];simp only[Item.extern.injEq,true_and]at h⊢;exact xE e h
 |_=>exact h
def aCs(a:∀b,ρ.b b=b->β b=b){fr:I_}(h:frame ρ fr=fr):frame (bf ρ β) fr=fr:=by
 have h1:=RJ Frame.fn h;have h2:=RJ Frame.tmps h;have h3:=RJ Frame.todo h;have e:=RJ Frame.defers h;have d:mode ρ fr.mode=fr.mode:=RJ Frame.mode h;have i:fr.roundOf.map ρ.b=fr.roundOf:=RJ Frame.roundOf h;have k3:fr.todo.map (item (bf ρ β))=fr.todo:=BK λx c=>aWn a (qW h3 x c)
 have j:fr.defers.map (deferred (bf ρ β))=fr.defers:=BK λx c=>FV a (qW e x c)
 have k:mode (bf ρ β) fr.mode=fr.mode:=by
  cases hm:fr.mode with
  |panicking ch=>
   rw[hm]at d;simp only[mode,ZR]at d⊢;refine BK λx c=>?_
   have:=qW d x c;obtain⟨v,r,g⟩:=x;simp only[nN,PanicEntry.mk.injEq,and_true]at this⊢;exact xC a v this
  |_=>rfl
 unfold frame;rw[xE a h2,k3,j,k,Ir a i,show(bf ρ β).f fr.fn=fr.fn from h1]
structure Cond(P:TB)(L:dW)(π:Ren):Prop where
 inj:∀a b,π.b a=π.b b->a=b
 fix:∀g,g<P.globals.size+1->π.b g=g
 fs:∀f,π.fs f↔L.fs f=G_
 ms:∀n,π.ms n↔L.ms n=G_
 f:∀f,L.fs f=G_->π.f f=f
 m:∀n,L.ms n=G_->π.m n=n
 bad:∀b,okB b=G_->π.bad b=E_
 code:∀c,fH L c=G_->π.c c=c
structure Seat(P:TB)(L:dW):Prop where
 fit:∀π,Cond P L π->Fit P L π
 iI:rJ P L
 dom:∀f,L.fs f=G_->∃fn,P.funcs[f]? = A_ fn
def cut(k:Nat)(b:Nat):Nat:=if b<k then b else b+1
def eF(L:dW)(k:Nat):Ren:=bf (mover L) (cut k)
def kJ{L:dW}(s:Bool):Cond P L (fO L s):=⟨λ_ _ h=>h,λ_ _=>rfl,λ_=>Iff.rfl,λ_=>Iff.rfl,λ_ _=>rfl,λ_ _=>rfl,λ_ _=>rfl,λ_ _=>rfl⟩
def Seat.pl{L:dW}(A:Seat P L):Pl P L:=⟨_,A.fit _ (kJ E_),rfl,rfl⟩
def aAr(h:cut k a=cut k b):a=b:=by unfold cut at h;split at h<;>split at h<;>omega
def xY(h:b<k):cut k b=b:=by unfold cut;simp[h]
def zF(h:cut k b=b):b<k:=by unfold cut at h;split at h<;>omega
def aAe{L:dW}:Cond P L (mover L):=
 ⟨λ_ _ h=>h,λ_ _=>rfl,λ_=>Iff.rfl,λ_=>Iff.rfl,λf h=>by simp[mover,h],λn h=>by simp[mover,h],λb h=>by simp[mover,h],λc h=>by simp[mover,h]⟩
def Cond.bf{L:dW}{π:Ren}(h:Cond P L π)(hi:∀a b,β a=β b->a=b)(c:∀g,g<P.globals.size+1->β g=g):Cond P L (Rn.bf π β):=⟨hi,c,h.fs,h.ms,h.f,h.m,h.bad,h.code⟩
def aAf{L:dW}(hk:P.globals.size+1<=k):Cond P L (eF L k):=aAe.bf (λ_ _ h=>aAr h) λg a=>xY o7
section
variable {P:TB} {L:dW}
structure jF(L:dW)(fr:I_)(cs:List I_)(w:C_):Prop where
 top:frame (eF L w.heap.size) fr=fr
 low:∀c∈cs,frame (eF L w.heap.size) c=c
 heap:∀(b:Nat) (o:Obj),w.heap[b]? = A_ o->obj (eF L w.heap.size) o=o
 last:fQ fr cs=.normal
 np:NP w
end
def aCt{L:dW}{fr:I_}(h:frame (eF L k) fr=fr):frame (mover L) fr=fr:=aCs (λ_ _=>rfl) h
def aCp{L:dW}(hk:k<=m){fr:I_}(h:frame (eF L k) fr=fr):frame (eF L m) fr=fr:=aCs (ρ:=eF L k) (β:=cut m) (λ_ a=>xY (Sn (zF a) hk)) h
def bAo{L:dW}(hk:k<=m)(h:obj (eF L k) o=o):obj (eF L m) o=o:=aFx (ρ:=eF L k) (β:=cut m) (λ_ a=>xY (Sn (zF a) hk)) h
def jF.nice{L:dW}{fr:I_}{cs:List I_}{w:C_}(T:jF L fr cs w):qJ L fr cs:=⟨aCt T.top,λc a=>aCt (T.low c a),T.last⟩
def jF.well{L:dW}(A:Seat P L){fr:I_}{cs:List I_}{w:C_}(T:jF L fr cs w)(a:¬(cs=[]/\fr.defers=[]/\∃ch,fr.mode=.panicking ch)):Well P L fr cs w:=⟨T.nice,A.dom _ (rV T.nice.top),a,T.np⟩
def EJ{L:dW}(A:Seat P L){fr fr':I_}{cs f:List I_}{w w':C_}{es:Array K_}(T:jF L fr cs w)(a:¬(cs=[]/\fr.defers=[]/\∃ch,fr.mode=.panicking ch))(z:P.globals.size+1<=w.heap.size)(h:bP P fr cs w fr' f w' es):
  jF L fr' f w'/\∀e∈es,ev (eF L w'.heap.size) e=e:=by
 have H:=T.well A a;obtain⟨k1,k2,k3,_⟩:=sH (A.fit _ (kJ E_)) A.iI H h
 have C:PC (eF L w'.heap.size) w.heap.size w.heap.size w'.heap.size:=
  ⟨λ_ _ h=>aAr h,λb a _=>by show cut _ b<_;rw[xY o7];exact a,λb h1 h2=>by show cut _ b=_;rw[xY h2];omega,λb h1 h2 _=>by show _<=cut _ b;unfold cut;split<;>omega,λ_ h=>(by cases h),λ_ h=>(by cases h),rfl⟩
 have S:=xP (P:=P) (d:=w'.drawn) (d0:=0) (D0:=0) (W0:=w) C
 have q:QC (eF L w'.heap.size) w.heap.size w.heap.size w'.drawn 0 0 w w w:=
  ⟨RQ _,rfl,λb a _=>by
   show w.heap[cut w'.heap.size b]? = _;rw[xY o7,Tf a];simp only[Si];rw[bAo k1 (T.heap b _ (Tf a))],λ_ h=>(by cases h),T.np,λ_ _=>rfl,rfl,rfl,rfl,rfl,rfl,λ_ _ _=>rfl,λb a=>absurd rfl a⟩
 have h1:=xw (A.fit _ (aAf o7)) A.iI A.pl S (main:=G_) (C:=[]) s7 H.nice H.dom H.bot q
 have j:comp (eF L w'.heap.size) [] { frame:=fr,callers:=cs,status:=.running,dying:=B_ }={ frame:=fr,callers:=cs,status:=.running,dying:=B_ }:=by
  simp only[comp,UK,aCp k1 T.top,BK λc j=>aCp k1 (T.low c j)]
 rw[j]at h1;have e:stepG P G_ { frame:=fr,callers:=cs,status:=.running,dying:=B_ } w=.go { frame:=fr',callers:=f,status:=.running,dying:=B_ } w' es:=h;rw[e]at h1;rcases h1 ⟨RQ _,RQ _⟩with ho|⟨hv,_⟩|⟨p,l,w2,n,e2,y,k,q'⟩
 ·obtain⟨_,d,r,_⟩:=ho;cases r
 ·cases hv
 ·cases e2;simp only[comp,UK,r_,Xl,and_true]at k;obtain⟨⟨t,u⟩,v,x⟩:=k;subst v;refine⟨⟨t.symm,λc j=>qW u.symm c j,λb o i=>?_,aIl T.last h,k3⟩,λe s=>mR x.symm e s⟩;have g:=(Sb.1 i).1;have:=q'.blk b g rfl;have m:(eF L w'.heap.size).b b=b:=xY g;rw[m,i,Si]at this;exact(Uj this).symm
def aYh{L:dW}(h:ev (eF L k) e=e){m:Mark}(a:e.loc=.mark m):pJ m=G_:=by
 have h1:loc (eF L k) e.write e.loc=e.loc:=RJ Event.loc h;rw[a]at h1;simp only[loc]at h1;cases ho:pJ m with
 |true=>rfl
 |false=>
  rw[ho]at h1;have hp:(eF L k).bad .print=G_:=by simp[eF,bf,mover,okB]
  simp[hp]at h1
def aOi{L:dW}(s:Bool)(β:Nat->Nat):Cond P L (eO L s β):=⟨λ_ _ h=>h,λ_ _=>rfl,λ_=>Iff.rfl,λ_=>Iff.rfl,λ_ _=>rfl,λ_ _=>rfl,λ_ _=>rfl,λ_ _=>rfl⟩
def off(n b:Nat):Nat:=if b<n then b+1 else b
def JW(n:Nat)(w:C_):Prop:=∀b,b<n->∃o,w.heap[b]? = A_ o/\OZ o
def Qc(n:Nat)(e:K_):Prop:=e.write=G_->(∀a,e.loc=.cell a->n<=a.block)/\∀r,e.loc=.obj r->n<=r
def bGe{L:dW}(A:Seat P L){fr fr':I_}{cs:List I_}{w w':C_}{es:Array K_}(H:Well P L fr cs w)(hi:JW n w)(h:bP P fr cs w fr' c w' es):
  JW n w'/\∀e∈es,Qc n e:=by
 have C:PC (eO L E_ (off n)) w.heap.size w.heap.size w'.heap.size:=⟨λ_ _ h=>h,λ_ h _=>h,λb h _=>by show b=_+(b - _);omega,λb h B _=>by show _+(_ - _)<=b;omega,λ_ h=>(by cases h),λ_ h=>(by cases h),rfl⟩;have S:=xP (P:=P) (d:=w'.drawn) (d0:=0) (D0:=0) (W0:=w) C;have y:∀o:Option Obj,o.map (obj (eO L E_ (off n)))=o:=by intro o;cases o<;>simp[Eb]
 have q:QC (eO L E_ (off n)) w.heap.size w.heap.size w'.drawn 0 0 w w w:=
  ⟨RQ _,rfl,λb _ _=>by rw[y];rfl,λ_ h=>(by cases h),H.np,λ_ _=>rfl,rfl,rfl,rfl,rfl,rfl,λ_ _ _=>rfl,λb j=>by
   by_cases g:b<n
   ·exact hi b g
   ·exfalso;apply j;show off n b=b;unfold off;simp[g]⟩
 have h1:=xw (A.fit _ (aOi E_ (off n))) A.iI A.pl S (main:=G_) (C:=[]) s7 H.nice H.dom H.bot q;rw[wB,UK]at h1;have e:stepG P G_ { frame:=fr,callers:=cs,status:=.running,dying:=B_ } w=.go { frame:=fr',callers:=c,status:=.running,dying:=B_ } w' es:=h;rw[e]at h1;rcases h1 ⟨RQ _,RQ _⟩with ho|⟨hv,_⟩|⟨p,k,w2,m,e2,z,i,q'⟩
 ·obtain⟨_,d,t,_⟩:=ho;cases t
 ·cases hv
 ·cases e2;rw[wB,UK]at i;simp only[r_,true_and]at i;refine⟨λb j=>q'.fz b ?_,λe u=>?_⟩
  ·show off n b≠b;unfold off;simp[j]
  ·have h2:=mR i.2.symm e u;have h3:loc (eO L E_ (off n)) e.write e.loc=e.loc:=RJ Event.loc h2;intro x;rw[x]at h3;refine⟨λa s=>?_,λr v=>?_⟩
   ·rw[s]at h3;have f:off n a.block=a.block:=RJ (λl=>match l with| .cell a=>a.block|_=>0) h3;unfold off at f;split at f<;>omega
   ·rw[v]at h3;have f:off n r=r:=RJ (λl=>match l with| .obj r=>r|_=>0) h3;unfold off at f;split at f<;>omega
inductive Chain (P:TB) (R:I_->List I_->C_->Prop):I_->List I_->C_->Prop
 |leaf {fr cs w}:R fr cs w->Chain P R fr cs w
 |step {fr cs w fr' cs' w' es}:bP P fr cs w fr' cs' w' es->Chain P R fr' cs' w'->Chain P R fr cs w
inductive Ends (P:TB) (R:I_->List I_->C_->Prop):I_->List I_->C_->Prop
 |leaf {fr cs w}:R fr cs w->Ends P R fr cs w
 |step {fr cs w}:(∀τ:Nat->UD->Nat,(∀i,i<w.drawn->τ i=w.tape i)->∃fr' cs' w' es,bP P fr cs { w with tape:=τ } fr' cs' w' es)->
  (∀τ:Nat->UD->Nat,(∀i,i<w.drawn->τ i=w.tape i)->∀fr' cs' w' es,bP P fr cs { w with tape:=τ } fr' cs' w' es->Ends P R fr' cs' w')->Ends P R fr cs w
def bP.same{fr d e:I_}{cs a b:List I_}{w w2:C_}{c es2:Array K_}(h1:bP P fr cs w d a w1 c)(h2:bP P fr cs w e b w2 es2):d=e/\a=b/\w1=w2/\c=es2:=by
 unfold bP at h1 h2;rw[h1]at h2;simp only[r_,Xl,and_true]at h2;exact⟨h2.1.1,h2.1.2,h2.2⟩
variable {fr':I_} {w':C_} {es:Array K_}
def bP.bot{fr:I_}{cs a:List I_}{w:C_}(h:bP P fr cs w fr' a w' es):¬(cs=[]/\fr.defers=[]/\∃ch,fr.mode=.panicking ch):=by
 rintro⟨rfl,c,ch,b⟩;unfold bP pz stepG at h;simp only[b]at h;unfold unwind at h;simp only[c,b]at h
 repeat'(first|(cases h;done)|split at h)
def jF.tape{L:dW}{fr:I_}{cs:List I_}{w:C_}(T:jF L fr cs w)(τ:Nat->UD->Nat):jF L fr cs { w with tape:=τ }:=⟨T.top,T.low,T.heap,T.last,T.np⟩
structure St where
 fr:I_
 cs:List I_
 w:C_
section
variable {P:TB} {L:dW} {R:I_->List I_->C_->Prop}
structure Bd(P:TB)(L:dW)(R:I_->List I_->C_->Prop)(s:St):Prop where
 no:¬Ends P R s.fr s.cs s.w
 tight:jF L s.fr s.cs s.w
 size:P.globals.size+1<=s.w.heap.size
 all:∀τ:Nat->UD->Nat,(∀i,i<s.w.drawn->τ i=s.w.tape i)->Chain P R s.fr s.cs { s.w with tape:=τ }
end
structure Nx(P:TB)(s s':St):Prop where
 lto:∃es,bP P s.fr s.cs { s.w with tape:=s'.w.tape } s'.fr s'.cs s'.w es
 tape:∀i,i<s.w.drawn->s'.w.tape i=s.w.tape i
 drawn:s.w.drawn<=s'.w.drawn
def Kn{L:dW}(A:Seat P L)(q:∀fr cs w τ,R fr cs { w with tape:=τ }->R fr cs w){s:St}(B:Bd P L R s):∃s',Bd P L R s'/\Nx P s s':=by
 have h0:¬R s.fr s.cs s.w:=λh=>B.no (.leaf h)
 have e:∀τ:Nat->UD->Nat,(∀i,i<s.w.drawn->τ i=s.w.tape i)->∃fr' a w' es,bP P s.fr s.cs { s.w with tape:=τ } fr' a w' es/\Chain P R fr' a w':=by
  intro τ b;cases B.all τ b with
  |leaf h=>exact absurd (q _ _ _ _ h) h0
  |step h h'=>exact⟨_,_,_,_,h,h'⟩
 have:∃τ:Nat->UD->Nat,(∀i,i<s.w.drawn->τ i=s.w.tape i)/\∀fr' a w' es,bP P s.fr s.cs { s.w with tape:=τ } fr' a w' es->¬Ends P R fr' a w':=by
  apply SL;intro hn;refine B.no (.step (λτ b=>let ⟨fr',a,w',es,h,_⟩:=e τ b;⟨fr',a,w',es,h⟩) λτ b fr' a w' es h=>?_);apply SL;intro u;refine hn ⟨τ,b,λk f w2 j h2 t=>u ?_⟩;obtain⟨e1,e2,g,_⟩:=bP.same h h2;subst e1 e2 g;exact t
 obtain⟨τ,b,n⟩:=this;obtain⟨fr',a,w',es,d,x⟩:=e τ b;have o:=B.tight.tape τ;have p:=o.well A d.bot;obtain⟨k1,k2,k3,v,_⟩:=sH (A.fit _ (kJ E_)) A.iI p d;have c:w'.tape=τ:=v;refine⟨⟨fr',a,w'⟩,⟨n _ _ _ _ d,(EJ A o d.bot B.size d).1,RV B.size k1,λτ' hτ'=>?_⟩,⟨⟨es,by rw[c];exact d⟩,λi hi=>by rw[c];exact b i hi,k2⟩⟩;have r:∀i,i<s.w.drawn->τ' i=s.w.tape i:=λi hi=>by rw[hτ' i (Sn hi k2),c,b i hi]
 obtain⟨k,f,w2,j,m,l⟩:=e τ' r;have hp:=OJ (A.fit _ (kJ E_)) A.iI p d τ' (λi hi=>by rw[hτ' i hi,c]);obtain⟨e1,e2,g,_⟩:=bP.same m hp;subst e1 e2 g;exact l
def aSo{L:dW}(A:Seat P L)(g:∀fr cs w τ,R fr cs { w with tape:=τ }->R fr cs w){fr:I_}{cs:List I_}{w:C_}(T:jF L fr cs w)(u:P.globals.size+1<=w.heap.size)(h:∀τ:Nat->UD->Nat,(∀i,i<w.drawn->τ i=w.tape i)->Chain P R fr cs { w with tape:=τ }):Ends P R fr cs w:=by
 apply SL;intro n
 let f:Nat->{ s:St // Bd P L R s }:=λk=>Nat.rec ⟨⟨fr,cs,w⟩,n,T,u,h⟩ (λ_ s=>⟨ZJ (Kn A g s.2),(Xh (Kn A g s.2)).1⟩) k
 have hn:∀k,Nx P (f k).1 (f (k+1)).1:=λk=>(Xh (Kn A g (f k).2)).2
 have a:∀k j,(f k).1.w.drawn<=(f (k+j)).1.w.drawn/\∀i,i<(f k).1.w.drawn->(f (k+j)).1.w.tape i=(f k).1.w.tape i:=by
  intro k j
  induction j with
  |zero=>exact⟨RQ _,λ_ _=>rfl⟩
  |succ j ih=>
   have:=hn (k+j);refine⟨RV ih.1 this.drawn,λi hi=>?_⟩;rw[<-ih.2 i hi];exact this.tape i (Sn hi ih.1)
 have l:∀k d i,i<(f k).1.w.drawn->i<(f d).1.w.drawn->(f k).1.w.tape i=(f d).1.w.tape i:=by
  intro k d i h1 h2;rcases Nat.le_total k d with hk|hk
  ·obtain⟨j,rfl⟩:=Nat.exists_eq_add_of_le hk;exact((a k j).2 i h1).symm
  ·obtain⟨j,rfl⟩:=Nat.exists_eq_add_of_le hk;exact(a d j).2 i h2
 have x:∃τ:Nat->UD->Nat,∀k i,i<(f k).1.w.drawn->τ i=(f k).1.w.tape i:=by
  refine⟨λi=>Classical.epsilon λ(t:UD->Nat)=>∀k,i<(f k).1.w.drawn->t=(f k).1.w.tape i,λk i hi=>?_⟩;exact Classical.epsilon_spec (p:=λ(t:UD->Nat)=>∀k,i<(f k).1.w.drawn->t=(f k).1.w.tape i) ⟨(f k).1.w.tape i,λd m=>l k d i hi m⟩ k hi
 obtain⟨τ,o⟩:=x
 have v:∀k,∃es,bP P (f k).1.fr (f k).1.cs { (f k).1.w with tape:=τ } (f (k+1)).1.fr (f (k+1)).1.cs { (f (k+1)).1.w with tape:=τ } es:=by
  intro k;obtain⟨es,h1⟩:=(hn k).lto;exact⟨es,OJ (A.fit _ (kJ E_)) A.iI (((f k).2.tight.tape _).well A h1.bot) h1 τ (λi hi=>o (k+1) i hi)⟩
 have e:∀c b w0,Chain P R c b w0->∀k,c=(f k).1.fr->b=(f k).1.cs->w0={ (f k).1.w with tape:=τ }->False:=by
  intro c b w0 r
  induction r with
  |leaf h=>
   rintro k rfl rfl rfl;exact(f k).2.no (.leaf (g _ _ _ _ h))
  |step h _ ih=>
   rintro k rfl rfl rfl;obtain⟨es,h2⟩:=v k;obtain⟨e1,e2,q,_⟩:=bP.same h h2;exact ih (k+1) e1 e2 q
 exact e _ _ _ ((f 0).2.all τ (λi hi=>o 0 i hi)) 0 rfl rfl rfl
def CJ(n:Nat)(H:Array Obj)(W:C_):Prop:=∀b:Nat,b<n->∃c e f0 f',H[b]? = A_ (.cells c e f0)/\W.heap[b]? = A_ (.cells c e f')/\GG f0 f'
def vJ(n:Nat)(H:Array Obj)(W:C_):Prop:=∀b:Nat,b<n->W.heap[b]? = H[b]?
inductive Goes (P:TB) (n:Nat) (O:C_->Prop) (R:I_->List I_->C_->Prop):I_->List I_->C_->Prop
 |leaf {fr cs w}:O w->R fr cs w->Goes P n O R fr cs w
 |step {fr cs w}:O w->(∀τ:Nat->UD->Nat,(∀i,i<w.drawn->τ i=w.tape i)->∃fr' cs' w' es,bP P fr cs { w with tape:=τ } fr' cs' w' es/\(∀e∈es,Qc n e)/\CJ n w.heap w')->
  (∀τ:Nat->UD->Nat,(∀i,i<w.drawn->τ i=w.tape i)->∀fr' cs' w' es,bP P fr cs { w with tape:=τ } fr' cs' w' es->Goes P n O R fr' cs' w')->Goes P n O R fr cs w
variable {w:C_} {fr:I_} {cs:List I_}
def QA.tL(q:QA n W0 w W):JW n w:=λb a=>
 let ⟨c,e,f,_,_,h1,h2,_⟩:=q.old b a
 ⟨_,h1,c,e,f,rfl,h2⟩
def QA.Nt(q:QA n W0 w W)(a:W0.heap=H):CJ n H W:=λb d=>
 let ⟨c,e,_,f',f0,_,_,h3,h4,h5⟩:=q.old b d
 ⟨c,e,f0,f',by rw[<-a];exact h4,h3,h5⟩
def QA.tape{W0 w W:C_}(q:QA n W0 w W)(τ:Nat->UD->Nat):QA n { W0 with tape:=τ } w { W with tape:=τ }:=⟨q.size,q.blk,q.np,rfl,q.os,q.qA,q.out,q.old⟩
def QA.again(q:QA n W0 w W):QA n W w W:=⟨q.size,q.blk,q.np,rfl,q.os,rfl,rfl,λb a=>
 let ⟨c,e,f,f',_,h1,h2,h3,_,_⟩:=q.old b a
 ⟨c,e,f,f',f',h1,h2,h3,h3,.inl rfl⟩⟩
def aIm{L:dW}(A:Seat P L)(b:Well P L fr cs w)(q:QA n W0 w W):
  ∃τ:Nat->UD->Nat,(∀i,i<w.drawn->τ i=w.tape i)/\∀fr' a w' es,bP P fr cs { w with tape:=τ } fr' a w' es->∃W',bP P fr cs W fr' a W' es/\QA n W0 w' W':=by
 obtain⟨τ,h1,h2⟩:=xw (A.fit _ (kJ G_)) A.iI A.pl (aK1) (C:=[]) s7 b.nice b.dom b.bot q;refine⟨τ,h1,λfr' a w' es h=>?_⟩;rw[wB,UK]at h2;have e:stepG P G_ { frame:=fr,callers:=cs,status:=.running,dying:=B_ } { w with tape:=τ }=.go { frame:=fr',callers:=a,status:=.running,dying:=B_ } w' es:=h;rw[e]at h2;rcases h2 trivial with ho|⟨hv,_⟩|⟨j,f,w2,g,e2,W',c,q'⟩
 ·obtain⟨_,d,k,_⟩:=ho;cases k
 ·cases hv
 ·cases e2;rw[wB,UK,zL]at c;exact⟨W',c,q'⟩
def thaw{L:dW}(A:Seat P L)(o:∀fr cs w W W0,R fr cs w->QA n W0 w W->jF L fr cs w->R' fr cs W)(h:Ends P R fr cs w):
  ∀W W0,W0.heap=H->QA n W0 w W->jF L fr cs w->P.globals.size+1<=w.heap.size->Goes P n (CJ n H) R' fr cs W:=by
 induction h with
 |leaf h=>intro W W0 j q T p;exact .leaf (q.Nt j) (o _ _ _ _ _ h q T)
 |@step fr cs w h1 h2 ih=>
  intro W W0 j q T p
  have g:∀τ:Nat->UD->Nat,(∀i,i<W.drawn->τ i=W.tape i)->∃fr' a w' W' es τ1,(∀i,i<w.drawn->τ1 i=w.tape i)/\bP P fr cs { w with tape:=τ1 } fr' a w' es/\bP P fr cs { W with tape:=τ } fr' a W' es/\QA n { W0 with tape:=τ } w' W'/\CJ n W.heap W':=by
   intro τ l;obtain⟨_,_,_,_,f⟩:=h1 w.tape (λ_ _=>rfl);obtain⟨τ1,d,s⟩:=aIm A (T.well A f.bot) (q.tape τ);obtain⟨fr',a,w',es,c⟩:=h1 τ1 d;obtain⟨W',b,q'⟩:=s _ _ _ _ c;obtain⟨τ2,t,u⟩:=aIm A (T.well A f.bot) (q.again.tape τ);obtain⟨_,_,_,_,e⟩:=h1 τ2 t;obtain⟨y,r,x⟩:=u _ _ _ _ e;obtain⟨_,_,m,_⟩:=bP.same b r;exact⟨fr',a,w',W',es,τ1,d,c,b,q',by rw[m];exact x.Nt rfl⟩
  refine .step (q.Nt j) (λτ l=>?_) (λτ l fr2 cs2 w2 es2 e=>?_)
  ·obtain⟨fr',a,w',W',es,τ1,d,c,b,q',v⟩:=g τ l;refine⟨fr',a,W',es,b,(bGe A ((T.tape τ1).well A c.bot) q.tL c).2,v⟩
  ·obtain⟨fr',a,w',W',es,τ1,d,c,b,q',v⟩:=g τ l;obtain⟨e1,e2,m,_⟩:=bP.same e b;subst e1 e2 m;have k:=sH (A.fit _ (kJ E_)) A.iI ((T.tape τ1).well A c.bot) c;exact ih τ1 d _ _ _ _ c _ { W0 with tape:=τ } j q' (EJ A (T.tape τ1) c.bot p c).1 (RV p k.1)
def aU4(j:∀fr cs w,R fr cs w->vJ n H w)(h:Goes P n (CJ n H) R fr cs w):Goes P n (vJ n H) R fr cs w/\vJ n H w:=by
 induction h with
 |leaf _ h=>exact⟨.leaf (j _ _ _ h) h,j _ _ _ h⟩
 |@step fr cs w ho h1 _ ih=>
  have i:vJ n H w:=by
   obtain⟨fr',a,w',es,g,_,p⟩:=h1 w.tape (λ_ _=>rfl);have o:=(ih w.tape (λ_ _=>rfl) _ _ _ _ g).2;intro b d;obtain⟨c,e,u,f,k,l,q⟩:=ho b d;obtain⟨t,e2,v,f',m,r,s⟩:=p b d;have:=o b d;rw[l]at m;cases m;rw[k,r]at this;cases this;rw[k,l,GG.anti q s]
  exact⟨.step i h1 λτ hτ fr' a w' es g=>(ih τ hτ _ _ _ _ g).1,i⟩
def OI{a:List I_}(h:bP P fr cs w fr' a w' es):step P (lone fr cs w)=.next (lone fr' a w'):=by
 unfold bP pz at h;exact step_lone_go (by rw[h];rfl)
def aIk{o:Outcome}(h:pz P fr cs w=.ended o w' es):∃o' w'',step P (lone fr cs w)=.ended o' w'':=by
 unfold pz at h;refine⟨o,w',?_⟩;rw[step,stepT,move_lone];simp[runT,lone,Array.swapAt!,h]
def bGd(h:pz P fr cs w=.go g w' es)(a:g.dyingOn P):step P (lone fr cs w)=.next (oneG g w'):=by
 unfold pz at h;rw[step,stepT,move_lone];rcases a.1 with h1|h1<;>simp[runT,lone,oneG,Array.swapAt!,h,h1]
def aFa:∀(n:Nat) {g:Goroutine} {w:C_},g.dyingOn P->∀fr cs w',runN P n (oneG g w)≠.next (lone fr cs w')
 |0,g,w,h,fr,cs,w'=>by
  intro e;simp only[runN,Za]at e;have:(oneG g w).gs[0]? = (lone fr cs w').gs[0]? :=by rw[e]
  simp only[oneG,lone]at this;obtain⟨_,d,b,_⟩:=h;have e2:g={ frame:=fr,callers:=cs,status:=.running,dying:=B_ }:=by simpa using this
  rw[e2]at b;cases b
 |n+1,g,w,h,fr,cs,w'=>by
  rcases step_dyingOn (w:=w) h with⟨g',w1,a,c⟩|⟨o,w1,a,ho⟩
  ·simp only[runN,a];exact aFa n c fr cs w'
  ·simp only[runN,a];intro e;cases e
def bGc{L:dW}(A:Seat P L)(H:Well P L fr cs w){f:I_}{a:List I_}{p:C_}(h:runN P (n+1) (lone fr cs w)=.next (lone f a p)):
  ∃fr' cs' w' es,bP P fr cs w fr' cs' w' es/\runN P n (lone fr' cs' w')=.next (lone f a p):=by
 generalize i:pz P fr cs w=x;have S:=xP (P:=P) (d:=(wQ x).drawn) (d0:=0) (D0:=0) (W0:=w) (IB (L:=L) (wQ x).heap.size w.heap.size)
 have q:QC (fO L E_) w.heap.size w.heap.size (wQ x).drawn 0 0 w w w:=
  ⟨RQ _,rfl,λb _ _=>by rw[Ad];rfl,λ_ h=>(by cases h),H.np,λ_ _=>rfl,rfl,rfl,rfl,rfl,rfl,λc u s=>rfl,λb r=>absurd rfl r⟩
 have h1:=xw (A.fit _ (kJ E_)) A.iI A.pl S (main:=G_) (C:=[]) s7 H.nice H.dom H.bot q;rw[wB,UK]at h1;have e:stepG P G_ { frame:=fr,callers:=cs,status:=.running,dying:=B_ } w=x:=i;rw[e]at h1;rcases h1 ⟨RQ _,RQ _⟩with ho|⟨hv,_⟩|⟨l,j,w2,k,e2,_⟩
 rotate_left 1
 ·cases hv
 rotate_left 1
 ·exfalso;cases x with
  |ended o w1 es=>
   obtain⟨v,t,e1⟩:=aIk i;simp only[runN,e1]at h;cases h
  |go g w1 es=>
   have e1:=bGd i ho;simp only[runN,e1]at h;exact aFa n ho _ _ _ h
  |_=>exact ho
 ·subst e2;have m:=i;refine⟨l,j,w2,k,m,?_⟩;have e1:=OI m;simp only[runN,e1]at h;exact h
def wall:I_:={ fn:=0,tmps:=#[],todo:=[],defers:=[⟨.nil,#[]⟩],mode:=.run,kind:=.normal }
def bIp:∃o,pz P (wall.raise ch) [] w=.ended o w:=by
 unfold pz stepG;simp only[wall,Frame.raise];unfold unwind;unfold callDeferred;simp only[Bool.and_self,if_true];exact⟨_,rfl⟩
def bGf{L:dW}(A:Seat P L){a:List I_}(H:Well P L fr cs w)(h:bP P fr cs w fr' a w' es):bP P fr (cs++[wall]) w fr' (a++[wall]) w' es:=by
 have S:=xP (P:=P) (d:=w'.drawn) (d0:=0) (D0:=0) (W0:=w) (IB (L:=L) w'.heap.size w.heap.size)
 have q:QC (fO L E_) w.heap.size w.heap.size w'.drawn 0 0 w w w:=
  ⟨RQ _,rfl,λb _ _=>by rw[Ad];rfl,λ_ h=>(by cases h),H.np,λ_ _=>rfl,rfl,rfl,rfl,rfl,rfl,λc F s=>rfl,λb j=>absurd rfl j⟩
 have h1:=xw (A.fit _ (kJ E_)) A.iI A.pl S (main:=G_) (C:=[wall]) (by simp[wall]) H.nice H.dom H.bot q;rw[wB]at h1;have e:stepG P G_ { frame:=fr,callers:=cs,status:=.running,dying:=B_ } w=.go { frame:=fr',callers:=a,status:=.running,dying:=B_ } w' es:=h;rw[e]at h1;obtain⟨_,_,_,l,t,m⟩:=sH (A.fit _ (kJ E_)) A.iI H h;rcases h1 ⟨RQ _,RQ _⟩with ho|⟨hv,_⟩|⟨p,n,w2,o,e2,i,f,q'⟩
 ·obtain⟨_,d,r,_⟩:=ho;cases r
 ·cases hv
 ·cases e2;rw[wB,zL]at f
  have g:i=w':=by
   have e1:i.heap=w'.heap:=by
    have G:=q'.size;apply Vg;intro b
    by_cases j:b<w'.heap.size
    ·have:=q'.blk b j rfl;rw[Ad]at this;exact this
    ·rw[Te o7,Te o7]
   have e2:=q'.ny;have f:=q'.dr;have g:=q'.os;have k:=q'.out;obtain⟨a1,u,a3,v,x⟩:=i;obtain⟨y,z,B,D,E⟩:=w';simp only at e1 e2 f g k l t m;subst e1;rw[e2,g,k,l,m];simp only[World.mk.injEq,true_and,and_true];omega
  rw[g]at f;exact f
def Hr{a:List I_}(h:lone fr cs w=lone fr' a w'):fr=fr'/\cs=a/\w=w':=by
 simp only[lone,Machine.mk.injEq]at h;have h2:=h.2.1;simp only[Array.mk.injEq,List.cons.injEq,Xl,and_true]at h2;exact⟨h2.1,h2.2,h.1⟩
def aD9{L:dW}(A:Seat P L){w0:C_}(i:L.fs fr.fn=G_)(h:fr.leaving P w0 (.returned v)):¬bP P fr [] w fr' c w' es:=by
 obtain⟨e,g,hk,fn,d,_⟩:=h;intro b;have hi:=A.iI.inits fr.fn i;unfold bP pz stepG at b;simp only[e]at b;unfold unwind at b;simp only[g,e,d]at b;generalize(results fn fr.tmps).runT P w #[]=x at b;obtain⟨r,f⟩:=x;cases r with
 |ok a w1=>
  simp only[Yy,hk,hi]at b;cases b
 |halt hh w1=>cases hh<;>cases b
def bC8(a:∃fn,P.funcs[fr.fn]? = A_ fn)(d:fr.defers=[])(b:fr.mode=.panicking ch):bP P fr [wall] w (wall.raise ch) [] w #[]:=by
 obtain⟨fn,e⟩:=a;have c:fr.catches P=E_:=by unfold Frame.catches;rw[e]
 unfold bP pz stepG;simp only[b];unfold unwind;simp only[d,b,c,SE,if_false]
def Rz{L:dW}(A:Seat P L){I:I_->List I_->C_->Prop}(t:∀fr cs w,I fr cs w->qJ L fr cs/\NP w)(u:∀fr cs w fr' f w' es,I fr cs w->bP P fr cs w fr' f w' es->I fr' f w'){j g:I_}{r l:C_}{z:D_}(k:g.leaving P l (.returned z)):∀(n d:Nat) (fr:I_) (cs:List I_) (w:C_),I fr cs w->
  runN P n (lone fr cs w)=.next (lone j [] r)->runN P d (lone fr (cs++[wall]) w)=.next (lone g [wall] l)->Chain P (λfr cs w=>fr=j/\cs=[]/\w=r/\I fr cs w) fr cs w:=by
 intro n
 induction n with
 |zero=>
  intro d fr cs w T h _;simp only[runN,Za]at h;obtain⟨a,b,c⟩:=Hr h;exact .leaf ⟨a,b,c,T⟩
 |succ n ih=>
  intro d fr cs w T h h2;obtain⟨hn,hp⟩:=t _ _ _ T;have i:=rV hn.top
  by_cases q:cs=[]/\fr.defers=[]/\∃ch,fr.mode=.panicking ch
  ·exfalso;obtain⟨rfl,v,ch,p⟩:=q;rw[List.nil_append]at h2;have x:=bC8 (w:=w) (A.dom _ i) v p;cases d with
   |zero=>
    simp only[runN,Za]at h2;obtain⟨rfl,_⟩:=Hr h2;rw[k.1]at p;cases p
   |succ d=>
    simp only[runN,OI x]at h2;cases d with
    |zero=>
     simp only[runN,Za]at h2;have:=(Hr h2).2.1;cases this
    |succ d=>
     obtain⟨o,e⟩:=bIp (P:=P) (ch:=ch) (w:=w);obtain⟨C,B,e1⟩:=aIk e;simp only[runN,e1]at h2;cases h2
  ·have H:Well P L fr cs w:=⟨hn,A.dom _ i,q,hp⟩;obtain⟨fr',f,w',es,m,s⟩:=bGc A H h;have y:=bGf A H m;cases d with
   |zero=>
    exfalso;simp only[runN,Za]at h2;obtain⟨rfl,e2,rfl⟩:=Hr h2
    have:cs=[]:=by
     cases cs with
     |nil=>rfl
     |cons c cs=>simp at e2
    subst this;exact aD9 A i k m
   |succ d=>
    simp only[runN,OI y]at h2;exact .step m (ih d fr' f w' (u _ _ _ _ _ _ _ T m) s h2)
def Left(P:TB)(f:FuncId)(Post:D_->C_->Prop)(fr:I_)(cs:List I_)(w:C_):Prop:=(cs=[]/\fr.fn=f)/\∃v,fr.leaving P w (.returned v)/\Post v w
def aXe{L:dW}(A:Seat P L){τ:Nat->UD->Nat}(hn:NP w)(h:fr.leaving P { w with tape:=τ } (.returned v)):fr.leaving P w (.returned v):=by
 obtain⟨h1,h2,h3,fn,k,l⟩:=h;refine⟨h1,h2,h3,fn,k,?_⟩
 have q:QC (fO L E_) w.heap.size w.heap.size w.drawn 0 0 w { w with tape:=τ } w:=
  ⟨RQ _,rfl,λb _ _=>by rw[Ad];rfl,λ_ h=>(by cases h),hn,λi hi=>by simp only at hi;omega,rfl,rfl,rfl,rfl,rfl,λc I n=>rfl,λb e=>absurd rfl e⟩
 have o:=Oh (A.fit _ (kJ E_)).ok (fn:=fn) (tmps:=fr.tmps);have g:=Ot (IB w.heap.size w.heap.size) o { w with tape:=τ } w #[] q;rw[Bt,uI]at g;have e1:=Sem.runT_fst P (results fn fr.tmps) { w with tape:=τ } #[];rw[l]at e1;have e2:=Sem.runT_fst P (results fn fr.tmps) w #[];generalize(results fn fr.tmps).runT P { w with tape:=τ } #[]=x at g e1;obtain⟨r,es⟩:=x;subst e1;rcases g ⟨RQ _,RQ _⟩with⟨hv,_⟩|⟨b,d,f,m,a⟩
 ·cases hv
 rw[f]at e2;rw[<-e2,m,pU]
 have j:d=w:=by
  have s:d.heap=w.heap:=by
   have p:=a.size;simp only at p;apply Vg;intro b
   by_cases e:b<w.heap.size
   ·have:=a.blk b e rfl;rw[Ad]at this;exact this
   ·rw[Te o7,Te o7]
  have t:=a.ny;have J:=a.dr;have u:=a.qA;have y:=a.out;obtain⟨a1,z,a3,B,C⟩:=d;obtain⟨D,E,F,G,H⟩:=w;subst s t u y;simp only[World.mk.injEq,true_and,and_true];omega
 rw[j]
def Chain.mono(a:∀fr cs w,R fr cs w->R' fr cs w)(h:Chain P R fr cs w):Chain P R' fr cs w:=by
 induction h with
 |leaf h=>exact .leaf (a _ _ _ h)
 |step h _ ih=>exact .step h ih
def ends_of_calls{L:dW}(A:Seat P L){f:FuncId}(q:∀v w τ,Post v { w with tape:=τ }->Post v w)(T:jF L (Ur P f args .normal) [] w)(k:P.globals.size+1<=w.heap.size)(h:∀τ:Nat->UD->Nat,(∀i,i<w.drawn->τ i=w.tape i)->Calls P f args { w with tape:=τ } λe w'=>∃v,e=.returned v/\Post v w'):
  Ends P (λfr cs w=>Left P f Post fr cs w/\NP w) (Ur P f args .normal) [] w:=by
 have r:∀fr cs w (τ:Nat->UD->Nat),(Left P f Post fr cs { w with tape:=τ }/\NP { w with tape:=τ })->Left P f Post fr cs w/\NP w:=by
  rintro fr cs w τ ⟨⟨h0,v,h1,h2⟩,h3⟩;exact⟨⟨h0,v,aXe A h3 h1,q _ _ _ h2⟩,h3⟩
 refine aSo A r T k λτ hτ=>?_
 ·obtain⟨e,w1,o,⟨v,rfl,hp⟩,s,d,a⟩:=h τ hτ [];obtain⟨e2,w2,p,⟨u,rfl,_⟩,b,_,g⟩:=h τ hτ [wall];obtain⟨n,hn⟩:=s;obtain⟨t,j⟩:=b;have c:=Rz A (I:=λfr cs w=>jF L fr cs w/\P.globals.size+1<=w.heap.size) (λ_ _ _ h=>⟨h.1.nice,h.1.np⟩) (λfr cs w fr' m w' es h a=>⟨(EJ A h.1 a.bot h.2 a).1,RV h.2 (sH (A.fit _ (kJ E_)) A.iI (h.1.well A a.bot) a).1⟩) g n t _ [] { w with tape:=τ } ⟨T.tape τ,k⟩ hn (by simpa using j);refine c.mono ?_;rintro fr cs w' ⟨rfl,rfl,rfl,l,_⟩;exact⟨⟨⟨rfl,d⟩,v,a,hp⟩,l.np⟩
def Out(P:TB)(L:dW)(fr:I_)(cs:List I_):Prop:=cs=[]/\L.fs fr.fn=G_/\∃v w0,fr.leaving P w0 (.returned v)
def aU1{L:dW}(A:Seat P L){O:C_->Prop}(h:Goes P n O (λfr cs _=>Out P L fr cs) fr cs w):Ends P R fr cs w->Goes P n O R fr cs w:=by
 induction h with
 |leaf ho h=>
  intro b;cases b with
  |leaf h2=>exact .leaf ho h2
  |step h1 _=>
   exfalso;obtain⟨rfl,c,v,w0,a⟩:=h;obtain⟨_,_,_,_,h2⟩:=h1 _ (λ_ _=>rfl);exact aD9 A c a h2
 |step ho h1 _ ih=>
  intro b;cases b with
  |leaf h2=>exact .leaf ho h2
  |step _ h3=>exact .step ho h1 λτ hτ fr' cs' w' es a=>ih τ hτ _ _ _ _ a (h3 τ hτ _ _ _ _ a)
def aU2{L:dW}(A:Seat P L){f:FuncId}(q:QA n W w W)(g:∀v w τ,Post v { w with tape:=τ }->Post v w)(d:∀v w,Post v w->vJ n W.heap w)(T:jF L (Ur P f args .normal) [] w)(b:jF L (Ur P f args .normal) [] W)(a:P.globals.size+1<=w.heap.size)(h:∀τ:Nat->UD->Nat,Calls P f args { w with tape:=τ } λe _=>∃v,e=.returned v/\True)(i:∀τ:Nat->UD->Nat,Calls P f args { W with tape:=τ } λe w'=>∃v,e=.returned v/\Post v w'):
  Goes P n (vJ n W.heap) (λfr cs w=>Left P f Post fr cs w/\NP w) (Ur P f args .normal) [] W:=by
 have e1:=ends_of_calls A (λ_ _ _ h=>h) T a λτ _=>h τ
 have e2:=ends_of_calls A g b (by rw[q.size];exact a) λτ _=>i τ
 have c:=thaw (R':=λfr cs _=>Out P L fr cs) A (λfr cs w W W0 h _ T=>by
  obtain⟨⟨⟨h0,_⟩,v,h1,_⟩,_⟩:=h;exact⟨h0,rV T.nice.top,v,w,h1⟩) e1 W W rfl q T a
 exact(aU4 (λfr cs w h=>by
  obtain⟨⟨_,v,_,h1⟩,_⟩:=h;exact d v w h1) (aU1 A c e2)).1
def pX{γ:Type}{f g:α->γ}{a:Array α}(h:∀x∈a,f x=g x):a.map f=a.map g:=Tw h
def Nj(c:∀b,ρ.b b=b->β b=β' b){a:Option J_}(h:a.map (addr ρ)=a):a.map (addr (bf σ β))=a.map (addr (bf σ β')):=by
 cases a with
 |none=>rfl
 |some a=>
  simp only[Si,Sk]at h⊢;have:=RJ Addr.block h;have:=c _ this;show({ a with block:=β a.block }:J_)={ a with block:=β' a.block };rw[this]
def Im(c:∀b,ρ.b b=b->β b=β' b){a:Option Nat}(h:a.map ρ.b=a):a.map (bf σ β).b=a.map (bf σ β').b:=by
 cases a with
 |none=>rfl
 |some a=>
  simp only[Si,Sk]at h⊢;exact c _ h
def aB7(a:∀b,ρ.b b=b->β b=β' b){g:Fn}(h:fn ρ g=g):fn (bf σ β) g=fn (bf σ β') g:=by
 cases g with
 |yield l=>
  simp only[fn,Fn.yield.injEq]at h⊢;exact a _ h
 |_=>rfl
def xB(hb:∀b,ρ.b b=b->β b=β' b)(v:D_)(h:val ρ v=v):val (bf σ β) v=val (bf σ β') v:=by
 match v with
 | .pointer a=>
  simp only[dI,Value.pointer.injEq]at h⊢;exact Nj hb h
 | .slice a l c=>
  simp only[gD,Value.slice.injEq,and_true]at h⊢;exact Nj hb h
 | .map r=>
  simp only[gT,Value.map.injEq]at h⊢;exact Im hb h
 | .chan r=>
  simp only[iY,Value.chan.injEq]at h⊢;exact Im hb h
 | .func g first captured=>
  simp only[gM,Value.func.injEq]at h⊢;refine⟨aB7 hb h.1,pX λx hx=>xB hb x (mR h.2.1 x hx),pX λx hx=>xB hb x (mR h.2.2 x hx)⟩
 | .iface t v=>
  simp only[fM,Value.iface.injEq,true_and]at h⊢;exact xB hb v h
 | .agg cs=>
  simp only[fq,Value.agg.injEq]at h⊢;exact pX λx hx=>xB hb x (mR h x hx)
 | .tuple cs=>
  simp only[gN,Value.tuple.injEq]at h⊢;exact pX λx hx=>xB hb x (mR h x hx)
 | .bool b=>simp
 | .int k n=>simp
 | .float k n=>simp
 | .complex k n m=>simp
 | .string s=>simp
 | .nilFunc=>simp
 | .nilIface=>simp
 termination_by SizeOf.sizeOf v
 decreasing_by
  all_goals simp_wf
  all_goals first|(have:=YS hx;omega)|omega
def Au(a:∀b,ρ.b b=b->β b=β' b){c:Array D_}(h:vals ρ c=c):vals (bf σ β) c=vals (bf σ β') c:=pX λx d=>xB a x (mR h x d)
def bG9(d:∀b,ρ.b b=b->β b=β' b)(h:target ρ t=t)(hp:ρ.bad .print=G_):target (bf σ β) t=target (bf σ β') t:=by
 cases t with
 |fn f c=>
  simp only[target,Target.fn.injEq]at h⊢;exact⟨aB7 d h.1,Au d h.2⟩
 |collected r=>
  simp only[target,Target.collected.injEq]at h⊢;exact d _ h
 |coroexit c=>
  simp only[target]at h;rw[RF hp]at h;cases h
 |nil=>rfl
 |builtin b a t c=>rfl
def KS(c:∀b,ρ.b b=b->β b=β' b)(hp:ρ.bad .print=G_)(h:deferred ρ d=d):deferred (bf σ β) d=deferred (bf σ β') d:=by
 obtain⟨t,a⟩:=d;simp only[deferred,Deferred.mk.injEq]at h⊢;exact⟨bG9 c h.1 hp,Au c h.2⟩
def aWk(c:∀b,ρ.b b=b->β b=β' b)(hp:ρ.bad .print=G_){x:Item}(h:item ρ x=x):item (bf σ β) x=item (bf σ β') x:=by
 cases x with
 |inRangeFunc l=>
  simp only[item,Item.inRangeFunc.injEq]at h⊢;exact c _ h
 |endRangeFunc l=>
  simp only[item,Item.endRangeFunc.injEq]at h⊢;exact c _ h
 |call d w r s=>
  simp only[item]at h;rw[RF hp]at h;cases h
 |extern r a=>
  simp only[item]at h;rw[RF hp]at h;cases h
 |_=>rfl
def LG(a:∀b,ρ.b b=b->β b=β' b)(hp:ρ.bad .print=G_)(h:frame ρ fr=fr):frame (bf σ β) fr=frame (bf σ β') fr:=by
 have h2:=RJ Frame.tmps h;have h3:=RJ Frame.todo h;have e:=RJ Frame.defers h;have d:mode ρ fr.mode=fr.mode:=RJ Frame.mode h;have f:fr.roundOf.map ρ.b=fr.roundOf:=RJ Frame.roundOf h;have k3:fr.todo.map (item (bf σ β))=fr.todo.map (item (bf σ β')):=SF λx c=>aWk a hp (qW h3 x c)
 have i:fr.defers.map (deferred (bf σ β))=fr.defers.map (deferred (bf σ β')):=SF λx c=>KS a hp (qW e x c)
 have j:mode (bf σ β) fr.mode=mode (bf σ β') fr.mode:=by
  cases hm:fr.mode with
  |panicking ch=>
   rw[hm]at d;simp only[mode,ZR]at d⊢;refine SF λx c=>?_
   have:=qW d x c;obtain⟨v,r,g⟩:=x;simp only[nN,PanicEntry.mk.injEq,and_true]at this⊢;exact xB a v this
  |_=>rfl
 unfold frame;rw[Au a h2,k3,i,j,Im a f];rfl
def Qm(c:∀b,ρ.b b=b->β b=β' b){a:J_}(h:addr ρ a=a):addr (bf σ β) a=addr (bf σ β') a:=by
 have:=Nj (σ:=σ) c (a:=A_ a) (by simp[h])
 simpa using this
def aFw(g:∀b,ρ.b b=b->β b=β' b)(hp:ρ.bad .print=G_)(h:obj ρ o=o):obj (bf σ β) o=obj (bf σ β') o:=by
 cases o with
 |cells c e f=>
  simp only[obj,Obj.cells.injEq,and_true]at h⊢;exact Au g h
 |pending c e=>
  simp only[obj,Obj.pending.injEq,and_true]at h⊢;exact Au g h
 |view a t=>
  simp only[obj,Obj.view.injEq,and_true]at h⊢;exact Qm g h
 |number a l=>
  simp only[obj,Obj.number.injEq,and_true]at h⊢;exact Qm g h
 |map es c=>
  simp only[obj,Obj.map.injEq,and_true]at h⊢;refine pX λx i=>?_
  have:=mR h x i;obtain⟨k,v⟩:=x;simp only[entry,MapEntry.mk.injEq,and_true]at this⊢;exact⟨xB g _ this.1,xB g _ this.2⟩
 |chan cap buf cl s r t=>
  simp only[obj,Obj.chan.injEq,and_true,true_and]at h⊢;exact Au g h
 |stringIter s p=>rfl
 |mapIter m s seen st=>
  simp only[obj,Obj.mapIter.injEq,and_true]at h⊢;exact Im g h
 |loop l=>
  simp only[obj,Obj.loop.injEq]at h⊢;have h3:=RJ Loop.tmps h;have j:=RJ Loop.defers h;unfold loop;rw[Au g h3,show(bf σ β).b l.defers=(bf σ β').b l.defers from g _ j];rfl
 |deferred cs=>
  simp only[obj,Obj.deferred.injEq]at h⊢;cases cs with
  |none=>rfl
  |some l=>
   simp only[Si,Sk]at h⊢;exact SF λx i=>KS g hp (qW h x i)
 |coro p=>rfl
 |finalizers fs r=>
  simp only[obj,Obj.finalizers.injEq,and_true]at h⊢;refine pX λx i=>?_
  have:=mR h x i;obtain⟨k,d⟩:=x;simp only[Prod.mk.injEq]at this⊢;exact⟨g _ this.1,KS g hp this.2⟩
structure Bare(π:Ren):Prop where
 f:∀x,π.f x=x
 m:∀x,π.m x=x
 c:∀x,π.c x=x
 bad:∀b,π.bad b=E_
structure oG(σ τ ω:Ren):Prop where
 b:∀x,τ.b (σ.b x)=ω.b x
 f:∀x,τ.f (σ.f x)=ω.f x
 m:∀x,τ.m (σ.m x)=ω.m x
 c:((∀x,σ.c x=x)/\∀x,ω.c x=τ.c x)\/((∀x,τ.c x=x)/\∀x,ω.c x=σ.c x)
 ret:τ.c .ret=.ret
 bad:∀x,ω.bad x=(σ.bad x || τ.bad x)
def oG.cc(H:oG σ τ ω)(x:Code):τ.c (σ.c x)=ω.c x:=by
 rcases H.c with⟨h1,h2⟩|⟨h1,h2⟩
 ·rw[h1,h2]
 ·rw[h1,h2]
def aFu(c:∀x,τ.b (σ.b x)=ω.b x)(a:Option J_):(a.map (addr σ)).map (addr τ)=a.map (addr ω):=by
 cases a with
 |none=>rfl
 |some a=>simp[addr,c]
def Ip(c:∀x,τ.b (σ.b x)=ω.b x)(a:Option Nat):(a.map σ.b).map τ.b=a.map ω.b:=by
 cases a with
 |none=>rfl
 |some a=>simp[c]
def aB8(H:oG σ τ ω)(g:Fn):fn τ (fn σ g)=fn ω g:=by
 cases g<;>simp[fn,H.f,H.m,H.b]
def yV(H:oG σ τ ω)(v:D_):val τ (val σ v)=val ω v:=by
 match v with
 | .pointer a=>simp only[dI,aFu H.b]
 | .slice a l c=>simp only[gD,aFu H.b]
 | .map r=>simp only[gT,Ip H.b]
 | .chan r=>simp only[iY,Ip H.b]
 | .func g first captured=>
  simp only[gM,aB8 H,Value.func.injEq,true_and];unfold vals;rw[Vt,Vt];exact⟨pX λx hx=>yV H x,pX λx hx=>yV H x⟩
 | .iface t v=>simp only[fM,yV H v]
 | .agg cs=>
  simp only[fq,Value.agg.injEq];unfold vals;rw[Vt];exact pX λx hx=>yV H x
 | .tuple cs=>
  simp only[gN,Value.tuple.injEq];unfold vals;rw[Vt];exact pX λx hx=>yV H x
 | .bool b=>simp
 | .int k n=>simp
 | .float k n=>simp
 | .complex k n m=>simp
 | .string s=>simp
 | .nilFunc=>simp
 | .nilIface=>simp
 termination_by SizeOf.sizeOf v
 decreasing_by
  all_goals simp_wf
  all_goals first|(have:=YS hx;omega)|omega
def xD(H:oG σ τ ω)(c:Array D_):vals τ (vals σ c)=vals ω c:=by
 unfold vals;rw[Vt];exact pX λx _=>yV H x
def bHa(H:oG σ τ ω)(t:Target):target τ (target σ t)=target ω t:=by
 cases t with
 |fn f c=>simp only[target,aB8 H,xD H]
 |collected r=>simp[target,H.b]
 |coroexit c=>
  have:=H.bad .print;cases h1:σ.bad .print<;>cases h2:τ.bad .print<;>simp[target,h1,h2,this,H.b]
 |nil=>rfl
 |builtin b a t c=>
  have:=H.bad b;cases h1:σ.bad b<;>cases h2:τ.bad b<;>simp[target,h1,h2,this]
def FT(H:oG σ τ ω)(d:Deferred):deferred τ (deferred σ d)=deferred ω d:=by
 simp only[deferred,bHa H,xD H]
def Ih(H:oG σ τ ω)(o:Obj):obj τ (obj σ o)=obj ω o:=by
 cases o with
 |cells c e f=>simp only[obj,xD H]
 |pending c e=>simp only[obj,xD H]
 |view a t=>simp[obj,addr,H.b]
 |number a l=>simp[obj,addr,H.b]
 |map es c=>
  simp only[obj,Vt,Obj.map.injEq,and_true];exact pX λx _=>by simp[entry,yV H]
 |chan=>simp only[obj,xD H]
 |stringIter=>rfl
 |mapIter=>simp only[obj,Ip H.b]
 |loop l=>
  simp only[obj,loop,xD H,H.f,H.cc,H.b];cases l.pending<;>simp[H.cc]
 |deferred cs=>
  cases cs with
  |none=>rfl
  |some l=>
   simp only[obj,Si,Vs,Obj.deferred.injEq,Sk];exact SF λx _=>FT H x
 |coro p=>rfl
 |finalizers fs r=>
  simp only[obj,Vt,Obj.finalizers.injEq,and_true];exact pX λx _=>by simp[H.b,FT H]
def aY0(H:oG σ τ ω)(m:FrameMode):mode τ (mode σ m)=mode ω m:=by
 cases m with
 |panicking ch=>
  simp only[mode,Vs,ZR];exact SF λx _=>by simp[nN,yV H]
 |_=>rfl
def aWl(H:oG σ τ ω)(x:Item):item τ (item σ x)=item ω x:=by
 have hp:=H.bad .print;cases x with
 |inRegion ops l=>
  rcases H.c with⟨h1,h2⟩|⟨h1,h2⟩
  ·simp only[item,h1,h2]
  ·have e1:item σ (.inRegion ops l)=match σ.c (.region 0 ops E_)with| .region _ ops _=>.inRegion ops l|_=>.code .ret:=rfl
   have e2:item ω (.inRegion ops l)=match ω.c (.region 0 ops E_)with| .region _ ops _=>.inRegion ops l|_=>.code .ret:=rfl
   rw[e1,e2,h2];cases σ.c (.region 0 ops E_)<;>simp[item,h1]
 |call d w r sv=>cases h1:σ.bad .print<;>cases h2:τ.bad .print<;>simp[item,h1,h2,hp,H.ret,FT H,xD H]
 |extern r a=>cases h1:σ.bad .print<;>cases h2:τ.bad .print<;>simp[item,h1,h2,hp,H.ret,xD H]
 |_=>simp[item,H.cc,H.b]
def Gt(H:oG σ τ ω)(fr:I_):frame τ (frame σ fr)=frame ω fr:=by
 simp only[frame,H.f,xD H,aY0 H,Ip H.b,Vs,Frame.mk.injEq,true_and,and_true];exact⟨SF λx _=>aWl H x,SF λx _=>FT H x⟩
structure Trim(L:dW)(fr:I_)(cs:List I_)(w:C_):Prop where
 top:frame (mover L) fr=fr
 low:∀c∈cs,frame (mover L) c=c
 heap:∀(b:Nat) (o:Obj),w.heap[b]? = A_ o->obj (mover L) o=o
 last:fQ fr cs=.normal
 np:NP w
variable {L:dW}
def Trim.nice(T:Trim L fr cs w):qJ L fr cs:=⟨T.top,T.low,T.last⟩
def Trim.well(A:Seat P L)(T:Trim L fr cs w)(a:¬(cs=[]/\fr.defers=[]/\∃ch,fr.mode=.panicking ch)):Well P L fr cs w:=⟨T.nice,A.dom _ (rV T.top),a,T.np⟩
def aIn(A:Seat P L){a:List I_}(T:Trim L fr cs w)(h:bP P fr cs w fr' a w' es):Trim L fr' a w'/\∀e∈es,ev (mover L) e=e:=by
 have H:=T.well A h.bot;obtain⟨k1,k2,k3,_⟩:=sH (A.fit _ (kJ E_)) A.iI H h
 have C:PC (mover L) w.heap.size w.heap.size w'.heap.size:=
  ⟨λ_ _ h=>h,λ_ h _=>h,λb h _=>by show b=_+(b - _);omega,λb h z _=>by show _+(_ - _)<=b;omega,λ_ h=>(by cases h),λ_ h=>(by cases h),rfl⟩
 have S:=xP (P:=P) (d:=w'.drawn) (d0:=0) (D0:=0) (W0:=w) C
 have q:QC (mover L) w.heap.size w.heap.size w'.drawn 0 0 w w w:=
  ⟨RQ _,rfl,λb g _=>by
   show w.heap[b]? = _;rw[Tf g];simp only[Si];rw[T.heap b _ (Tf g)],λ_ h=>(by cases h),T.np,λ_ _=>rfl,rfl,rfl,rfl,rfl,rfl,λ_ _ _=>rfl,λb g=>absurd rfl g⟩
 have h1:=xw (A.fit _ aAe) A.iI A.pl S (main:=G_) (C:=[]) s7 H.nice H.dom H.bot q
 have j:comp (mover L) [] { frame:=fr,callers:=cs,status:=.running,dying:=B_ }={ frame:=fr,callers:=cs,status:=.running,dying:=B_ }:=by
  simp only[comp,UK,T.top,BK T.low]
 rw[j]at h1;have e:stepG P G_ { frame:=fr,callers:=cs,status:=.running,dying:=B_ } w=.go { frame:=fr',callers:=a,status:=.running,dying:=B_ } w' es:=h;rw[e]at h1;rcases h1 ⟨RQ _,RQ _⟩with ho|⟨hv,_⟩|⟨p,l,w2,n,e2,y,k,q'⟩
 ·obtain⟨_,d,r,_⟩:=ho;cases r
 ·cases hv
 ·cases e2;simp only[comp,UK,r_,Xl,and_true]at k;obtain⟨⟨t,u⟩,v,x⟩:=k;subst v;refine⟨⟨t.symm,λc j=>qW u.symm c j,λb o f=>?_,aIl T.last h,k3⟩,λe s=>mR x.symm e s⟩;have i:=(Sb.1 f).1;have:=q'.blk b i rfl;have m:(mover L).b b=b:=rfl;rw[m,f,Si]at this;exact(Uj this).symm
def fJ(a j G x:Nat):Nat:=if x<a then x else if x<a+j then G+(x - a)else if x - j<G then x - j else x
def eG(a j G y:Nat):Nat:=if y<a then y else if y<G then y+j else if y<G+j then a+(y - G)else y
def Ey(h:a<=G)(x:Nat):eG a j G (fJ a j G x)=x:=by
 unfold fJ eG;split
 ·simp[*]
 ·split
  ·simp only[show¬G+(x - a)<a by omega,show¬G+(x - a)<G by omega,show G+(x - a)<G+j by omega,if_true,if_false];omega
  ·split
   ·by_cases h0:x - j<a
    ·omega
    ·simp only[h0,if_false];omega
   ·simp only[show¬x<G by omega,show¬x<G+j by omega,if_false]
def aHh(h:a<=G)(e:fJ a j G x=fJ a j G y):x=y:=by
 rw[<-Ey h x,e,Ey h]
def IW(h:a<=G)(y:Nat):fJ a j G (eG a j G y)=y:=by
 unfold fJ eG;split
 ·simp[*]
 ·split
  ·simp only[show¬y+j<a by omega,show¬y+j<a+j by omega,if_false,Nat.add_sub_cancel,show y<G by omega,if_true]
  ·split
   ·simp only[show¬a+(y - G)<a by omega,if_false,show a+(y - G)<a+j by omega,if_true];omega
   ·simp only[show¬y<a+j by omega,show¬y - j<G by omega,if_false]
def aHg(h:a<=G)(e:eG a j G x=eG a j G y):x=y:=by
 rw[<-IW h x,e,IW h]
def toN(L:dW)(a j G:Nat):Ren:={ fO L E_ with b:=fJ a j G,wb:=fJ a j G,vg:=λx=>decide (a<=x)&& decide (x<a+j),vx:=G_,BA:=λ_ _=>rfl }
def eU(L:dW)(a j G:Nat)(w:C_):C_:={ w with heap:=(w.heap.extract 0 a++w.heap.extract (a+j) w.heap.size).map (obj (toN L a j G)) }
def Ct:(toN L a j G).vg x=G_↔a<=x/\x<a+j:=by simp[toN]
def yX:(toN L a j G).vg x=E_↔x<a\/a+j<=x:=by
 rw[<-Bool.not_eq_true,Ct];omega
def Ea(h:a+j<=w.heap.size):(eU L a j G w).heap.size+j=w.heap.size:=by
 simp only[eU,Array.size_map,Array.size_append,Array.size_extract];omega
def DZ(h:a+j<=w.heap.size)(c:w.heap.size<=G+j)(d:x<w.heap.size)(hv:(toN L a j G).vg x=E_):(eU L a j G w).heap[(toN L a j G).b x]? = (w.heap[x]?).map (obj (toN L a j G)):=by
 rw[yX]at hv;show(eU L a j G w).heap[fJ a j G x]? = _;simp only[eU,VL]
 congr 1
 rcases hv with hv|hv
 ·rw[show fJ a j G x=x by unfold fJ;simp[hv],Array.getElem?_append_left (by simp;omega)];simp only[YR];simp;omega
 ·rw[show fJ a j G x=x - j by unfold fJ;simp[show¬x<a by omega,show¬x<a+j by omega,show x - j<G by omega]];rw[Array.getElem?_append_right (by simp;omega)];simp only[YR,Array.size_extract];rw[RF o7]
  congr 1
  omega
def CW:Bare (toN L a j G):=⟨λ_=>rfl,λ_=>rfl,λ_=>rfl,λ_=>rfl⟩
def QH:Bare (bf (fO L E_) β):=⟨λ_=>rfl,λ_=>rfl,λ_=>rfl,λ_=>rfl⟩
def Bare.cmp(h1:Bare σ)(h2:Bare τ)(h3:Bare ω)(a:∀x,τ.b (σ.b x)=ω.b x):oG σ τ ω:=
 ⟨a,λx=>by rw[h1.f,h2.f,h3.f],λx=>by rw[h1.m,h2.m,h3.m],.inl ⟨h1.c,λx=>by rw[h3.c,h2.c]⟩,h2.c _,λx=>by rw[h1.bad,h2.bad,h3.bad];rfl⟩
def aE7(h:Bare σ):oG σ (mover L) (bf (mover L) σ.b):=
 ⟨λ_=>rfl,λx=>by rw[h.f];rfl,λx=>by rw[h.m];rfl,.inl ⟨h.c,λ_=>rfl⟩,by simp[mover,fH],λx=>by rw[h.bad];rfl⟩
def aE8(h:Bare σ):oG (mover L) σ (bf (mover L) σ.b):=
 ⟨λ_=>rfl,λx=>by rw[h.f];rfl,λx=>by rw[h.m];rfl,.inr ⟨h.c,λ_=>rfl⟩,h.c _,λx=>by rw[h.bad,Bool.or_false];rfl⟩
def aCu(h:Bare σ)(e:frame (mover L) fr=fr):frame (mover L) (frame σ fr)=frame σ fr:=by
 rw[Gt (aE7 h),<-Gt (aE8 h),e]
def bAq(h:Bare σ)(e:obj (mover L) o=o):obj (mover L) (obj σ o)=obj σ o:=by
 rw[Ih (aE7 h),<-Ih (aE8 h),e]
def aAg(h:P.globals.size+1<=a)(b:a<=G):Cond P L (toN L a j G):=
 ⟨λ_ _ e=>aHh b e,λg c=>by show fJ a j G g=g;unfold fJ;simp[show g<a by omega],λ_=>Iff.rfl,λ_=>Iff.rfl,λ_ _=>rfl,λ_ _=>rfl,λ_ _=>rfl,λ_ _=>rfl⟩
def bIw{x y:C_}(h1:x.heap=y.heap)(h2:x.tape=y.tape)(h3:x.drawn=y.drawn)(a:x.os=y.os)(b:x.output=y.output):x=y:=by
 cases x;cases y
 simp_all
def uM(a j:Nat)(w:C_):Prop:=∀x,a<=x->x<a+j->w.heap[x]? = A_ (.coro B_)
def bBx(hn:a+j<=n)(f:n<=m)(c:m<=G):PC (toN L a j G) n (n - j) m:=by
 refine⟨λ_ _ e=>aHh o7 e,λb d hv=>?_,λb h1 h2=>?_,λb h1 h2 _=>?_,λ_ h=>(by cases h),λb hv=>?_,rfl⟩
 ·rw[yX]at hv;show fJ a j G b<_;unfold fJ;rcases hv with hv|hv
  ·simp only[hv,if_true];omega
  ·simp only[show¬b<a by omega,show¬b<a+j by omega,show b - j<G by omega,if_false,if_true];omega
 ·show fJ a j G b=_;unfold fJ;simp only[show¬b<a by omega,show¬b<a+j by omega,show b - j<G by omega,if_false,if_true];omega
 ·show _<=fJ a j G b;unfold fJ;simp only[show¬b<a by omega,show¬b<a+j by omega,if_false];split<;>omega
 ·rw[Ct]at hv;refine⟨by omega,?_⟩;show _<=fJ a j G b;unfold fJ;simp only[show¬b<a by omega,hv.2,if_false,if_true];omega
def bCr{d:Nat}(f:a+j<=w.heap.size)(hv:uM a j w)(g:w.heap.size<=G)(hn:NP w):QC (toN L a j G) w.heap.size (w.heap.size - j) d 0 0 (eU L a j G w) w (eU L a j G w):=
 ⟨RQ _,by have:=Ea (L:=L) (G:=G) f;omega,λb c e=>DZ f o7 c e,λb c=>(by rw[Ct]at c;exact hv b c.1 c.2),hn,λ_ _=>rfl,rfl,rfl,rfl,rfl,rfl,λ_ _ _=>rfl,λb c=>absurd rfl c⟩
def aZ3{N d:Nat}(h:a<=G)(l:N+j=n)(q:QC (toN L a j G) n N d 0 0 W0 w W)(f:a+j<=w.heap.size)(k:w.heap.size<=G)(h1:W0.tape=w.tape)(h2:W0.output=w.output):W=eU L a j G w:=by
 have e1:W.heap=(eU L a j G w).heap:=by
  have o:=q.size;have i:=Ea (L:=L) (G:=G) f;apply Vg;intro c
  by_cases m:c<W.heap.size
  ·have g:eG a j G c<w.heap.size:=by
    unfold eG;split
    ·omega
    ·rw[RF o7];omega
   have hv:(toN L a j G).vg (eG a j G c)=E_:=by
    rw[yX];unfold eG;split
    ·exact .inl a7
    ·rw[RF o7];exact .inr o7
   have e:(toN L a j G).b (eG a j G c)=c:=IW h c;have k1:=q.blk _ g hv;have k2:=DZ f o7 g hv;rw[e]at k1 k2;rw[k1,k2]
  ·rw[Te o7,Te o7]
 exact bIw e1 (q.ny.trans h1) (by have:=q.dr;show W.drawn=w.drawn;omega) q.os (q.out.trans h2)
def aZ4(A:Seat P L)(r:P.globals.size+1<=a){f:I_}{b:List I_}{g:C_}{nes:Array K_}(H:Well P L fr cs w)(l:a+j<=w.heap.size)(hv:uM a j w)(h:bP P fr cs w fr' b w' es)(k:w'.heap.size<=G)(hn:bP P (frame (toN L a j G) fr) (cs.map (frame (toN L a j G))) (eU L a j G w) f c g nes):
  f=frame (toN L a j G) fr'/\c=b.map (frame (toN L a j G))/\g=eU L a j G w'/\uM a j w'/\nes=evs (toN L a j G) es:=by
 obtain⟨k1,_,_,B,F,D⟩:=sH (A.fit _ (kJ E_)) A.iI H h;have C:=bBx (L:=L) l k1 k;have q:=bCr (L:=L) (d:=w'.drawn) l hv (by omega:w.heap.size<=G) H.np;have S:=xP (P:=P) (d:=w'.drawn) (d0:=0) (D0:=0) (W0:=eU L a j G w) C;have h1:=xw (A.fit _ (aAg r o7)) A.iI A.pl S (main:=G_) (C:=[]) s7 H.nice H.dom H.bot q;have e:stepG P G_ { frame:=fr,callers:=cs,status:=.running,dying:=B_ } w=.go { frame:=fr',callers:=b,status:=.running,dying:=B_ } w' es:=h
 have n:stepG P G_ (comp (toN L a j G) [] { frame:=fr,callers:=cs,status:=.running,dying:=B_ }) (eU L a j G w)=.go { frame:=f,callers:=c,status:=.running,dying:=B_ } g nes:=by
  simp only[comp,UK];exact hn
 dsimp only at h1;rw[e,n]at h1;rcases h1 ⟨RQ _,RQ _⟩with ho|⟨_,_,_,_,t⟩|⟨p,m,w2,o,e2,E,i,q'⟩
 ·obtain⟨_,d,s,_⟩:=ho;cases s
 ·cases t
 ·cases e2;simp only[comp,UK,r_,Xl,and_true]at i;obtain⟨⟨u,v⟩,y,z⟩:=i;subst y;refine⟨u,v,aZ3 o7 o7 q' o7 k (by rw[B];rfl) (by rw[D];rfl),λx h1 h2=>q'.rA x ?_,z⟩;rw[Ct];exact⟨h1,h2⟩
def aXc(A:Seat P L)(e:L.fs fr.fn=G_)(f:fr.mode=.returning)(h:fr.defers=[])(hk:fr.kind=.normal):¬bP P fr [] w fr' c w' es:=by
 obtain⟨fn,d⟩:=A.dom fr.fn e;intro b;have hi:=A.iI.inits fr.fn e;unfold bP pz stepG at b;simp only[f]at b;unfold unwind at b;simp only[h,f,d]at b;generalize(results fn fr.tmps).runT P w #[]=x at b;obtain⟨r,g⟩:=x;cases r with
 |ok a w1=>
  simp only[Yy,hk,hi]at b;cases b
 |halt hh w1=>cases hh<;>cases b
def Lv(P:TB)(fr:I_)(cs:List I_)(_:C_):Prop:=cs=[]/\∃v w0,fr.leaving P w0 (.returned v)
def Fam(P:TB)(L:dW)(a j:Nat)(fr:I_)(cs:List I_)(w:C_):Prop:=
 ∀G,w.heap.size<=G->∀τ:Nat->UD->Nat,(∀i,i<w.drawn->τ i=w.tape i)->Chain P (Lv P) (frame (toN L a j G) fr) (cs.map (frame (toN L a j G))) (eU L a j G { w with tape:=τ })
def Fam.step{P:TB}{L:dW}{a j:Nat}(A:Seat P L)(u:P.globals.size+1<=a){fr fr':I_}{cs b:List I_}{w w':C_}{es:Array K_}(T:jF L fr cs w)(x:a+j<=w.heap.size)(hv:uM a j w)(F:Fam P L a j fr cs w){τ:Nat->UD->Nat}(y:∀i,i<w.drawn->τ i=w.tape i)(h:bP P fr cs { w with tape:=τ } fr' b w' es):
  uM a j w'/\Fam P L a j fr' b w'/\∀G,w'.heap.size<=G->bP P (frame (toN L a j G) fr) (cs.map (frame (toN L a j G))) (eU L a j G { w with tape:=τ }) (frame (toN L a j G) fr') (b.map (frame (toN L a j G))) (eU L a j G w') (evs (toN L a j G) es):=by
 have H:=(T.tape τ).well A h.bot;obtain⟨k1,k2,_,D,_⟩:=sH (A.fit _ (kJ E_)) A.iI H h;have B:w.heap.size<=w'.heap.size:=k1;have C:w.drawn<=w'.drawn:=k2;have d:w'.tape=τ:=D
 have g:∀G,w'.heap.size<=G->∀τ':Nat->UD->Nat,(∀i,i<w'.drawn->τ' i=w'.tape i)->uM a j w'/\
   bP P (frame (toN L a j G) fr) (cs.map (frame (toN L a j G))) (eU L a j G { w with tape:=τ' }) (frame (toN L a j G) fr') (b.map (frame (toN L a j G))) (eU L a j G { w' with tape:=τ' }) (evs (toN L a j G) es)/\
   Chain P (Lv P) (frame (toN L a j G) fr') (b.map (frame (toN L a j G))) (eU L a j G { w' with tape:=τ' }):=by
  intro G k τ' l;have p:=OJ (A.fit _ (kJ E_)) A.iI H h τ' (λi hi=>by rw[l i hi,d]);have ch:=F G o7 τ' (λi hi=>by rw[l i o7,d,y i hi]);generalize t:eU L a j G { w with tape:=τ' }=N at ch;generalize o:frame (toN L a j G) fr=f at ch;generalize n:cs.map (frame (toN L a j G))=c at ch;cases ch with
  |leaf h0=>
   exfalso;obtain⟨rfl,v,w0,h1⟩:=h0;subst o
   have m:cs=[]:=by
    cases cs with
    |nil=>rfl
    |cons=>cases n
   subst m;refine aXc A (rV T.nice.top) ?_ ?_ h1.2.2.1 p
   ·have:=h1.1;have e:mode (toN L a j G) fr.mode=.returning:=this;cases hm:fr.mode with
    |returning=>rfl
    |run=>rw[hm]at e;cases e
    |panicking ch=>rw[hm]at e;cases e
   ·have e:fr.defers.map (deferred (toN L a j G))=[]:=h1.2.1
    simpa using e
  |step hn hch=>
   subst t o n;obtain⟨e1,e2,q,r,s⟩:=aZ4 A u ((T.tape τ').well A h.bot) x hv p k hn;subst e1 e2 q s;exact⟨r,hn,hch⟩
 have z:=g w'.heap.size (RQ _) w'.tape (λ_ _=>rfl);refine⟨z.1,λG k τ' l=>(g G k τ' l).2.2,λG k=>?_⟩;have:=(g G k w'.tape (λ_ _=>rfl)).2.1;rw[d]at this;have e:({ w' with tape:=τ }:C_)=w':=by rw[<-d]
 rw[e]at this;exact this
def aZ2(π:Ren)(o:Obj):np (obj π o)=np o:=by cases o<;>rfl
def aE2{xs:Array α}{i:Nat}{x:α}(h:x∈xs.extract i k):x∈xs:=by
 obtain⟨n,hn⟩:=Array.mem_iff_getElem?.1 h;rw[YR]at hn;split at hn
 ·exact Ut hn
 ·cases hn
def aFp(h:(eU L a j G w).heap[b]? = A_ o):∃(x:Nat) (o0:Obj),w.heap[x]? = A_ o0/\o=obj (toN L a j G) o0:=by
 simp only[eU,VL]at h;cases d:(w.heap.extract 0 a++w.heap.extract (a+j) w.heap.size)[b]? with
 |none=>rw[d]at h;cases h
 |some o0=>
  rw[d]at h;cases h;have c:=Ut d;rw[Array.mem_append]at c
  have:o0∈w.heap:=by
   rcases c with c|c
   ·exact aE2 c
   ·exact aE2 c
  obtain⟨x,d⟩:=Array.mem_iff_getElem?.1 this;exact⟨x,o0,d,rfl⟩
def bAp(h:obj (eF L k) o=o):obj (mover L) o=o:=aFx (λ_ _=>rfl) h
def aWu(π:Ren)(fr:I_)(cs:List I_):fQ (frame π fr) (cs.map (frame π))=fQ fr cs:=by
 unfold fQ;have:(frame π fr::cs.map (frame π))=(fr::cs).map (frame π):=rfl;simp only[this,List.getLast_map];rfl
def aJm(T:jF L fr cs w):Trim L (frame (toN L a j G) fr) (cs.map (frame (toN L a j G))) (eU L a j G w):=by
 refine⟨aCu CW T.nice.top,λc e=>?_,λb o h=>?_,?_,λb o h=>?_⟩
 ·obtain⟨x,d,rfl⟩:=List.mem_map.1 e;exact aCu CW (T.nice.low x d)
 ·obtain⟨x,o0,d,rfl⟩:=aFp h;exact bAq CW (bAp (T.heap x o0 d))
 ·rw[aWu];exact T.last
 ·obtain⟨x,o0,d,rfl⟩:=aFp h;rw[aZ2];exact T.np x o0 d
def toC(L:dW)(a j G:Nat)(β:Nat->Nat):Ren:={ fO L E_ with b:=λy=>β (eG a j G y),wb:=λy=>β (eG a j G y),gh:=λy=>decide (G<=y)&& decide (y<G+j),lax:=G_,hgh:=λ_ _=>rfl }
def QI:Bare (toC L a j G β):=⟨λ_=>rfl,λ_=>rfl,λ_=>rfl,λ_=>rfl⟩
def bHm(h:a<=G):oG (toN L a j G) (toC L a j G β) (bf (fO L E_) β):=CW.cmp QI QH λx=>by
 show β (eG a j G (fJ a j G x))=β x;rw[Ey h]
def aOj(h:P.globals.size+1<=a)(b:a<=G)(hi:∀x y,β x=β y->x=y)(c:∀g,g<P.globals.size+1->β g=g):Cond P L (toC L a j G β):=
 ⟨λ_ _ e=>aHg b (hi _ _ e),λg d=>by show β (eG a j G g)=g;rw[show eG a j G g=g by unfold eG;simp[show g<a by omega]];exact c g d,λ_=>Iff.rfl,λ_=>Iff.rfl,λ_ _=>rfl,λ_ _=>rfl,λ_ _=>rfl,λ_ _=>rfl⟩
def Fh(a j:Nat)(e:K_):Prop:=(∀x,e.loc=.cell x->¬(a<=x.block/\x.block<a+j))/\∀r,e.loc=.obj r->¬(a<=r/\r<a+j)
def aZt(h:ev (mover L) (ev (toN L a j G) e)=ev (toN L a j G) e):Fh a j e:=by
 have h1:loc (mover L) e.write (loc (toN L a j G) e.write e.loc)=loc (toN L a j G) e.write e.loc:=RJ Event.loc h;have hp:(mover L).bad .print=G_:=by simp[mover,okB]
 refine⟨λx b hv=>?_,λr b hv=>?_⟩
 ·rw[b]at h1;simp only[loc,Ct.2 hv,if_true,hp]at h1;cases h1
 ·rw[b]at h1;simp only[loc,Ct.2 hv,if_true,hp]at h1;cases h1
def aS3(h:a<=G)(hv:Fh a j e):ev (toC L a j G β) (ev (toN L a j G) e)=ev (bf (fO L E_) β) e:=by
 have b:∀x,eG a j G (fJ a j G x)=x:=Ey h;obtain⟨l,wr,d⟩:=e;cases l with
 |cell x=>
  have hn:(toN L a j G).vg x.block=E_:=by rw[yX];have:=hv.1 x rfl;omega
  have e1:loc (toN L a j G) wr (.cell x)=.cell { x with block:=fJ a j G x.block }:=by simp only[loc,hn];cases wr<;>rfl
  simp only[ev,e1,Event.mk.injEq,and_true];cases wr<;>simp[loc,toC,bf,eO,b]
 |obj r=>
  have hn:(toN L a j G).vg r=E_:=by rw[yX];have:=hv.2 r rfl;omega
  have e1:loc (toN L a j G) wr (.obj r)=.obj (fJ a j G r):=by simp only[loc,hn];cases wr<;>rfl
  simp only[ev,e1,Event.mk.injEq,and_true];cases wr<;>simp[loc,toC,bf,eO,b]
 |output=>rfl
 |goroutines=>rfl
 |mark m=>
  have c:mark (toC L a j G β) (mark (toN L a j G) m)=mark (bf (fO L E_) β) m:=by
   cases m<;>simp[mark,addr,toC,toN,bf,b]
  have ho:pJ (mark (toN L a j G) m)=pJ m:=by cases m<;>rfl
  simp only[ev,loc,Event.mk.injEq,and_true];cases h0:pJ m
  ·simp only[CW.bad,SE,if_false,ho,h0,QI.bad,QH.bad,c]
  ·simp[h0]
end Go.Rn
