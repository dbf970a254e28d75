/- ManyWorkers -/
import Derived.Test.YtpodibeogglplaaGreatDoorVN
import Derived.Conc.CrowdRun
import Derived.Conc.CrowdComm
import Derived.Conc.Beside
open Array renaming getElem?_eq_some_iff->Sb, mem_append->Xi, getElem?_setIfInBounds_ne->Sg, getElem?_map->VL
open Bool renaming false->E_, true->G_
open Classical renaming choose->ZJ, choose_spec->Xh, byContradiction->SL
open Go renaming Program->TB, Frame->I_, World->C_, Goroutine->H_, Question->UD, Event->K_, Value->D_, FuncId->XG
open Go.Conc renaming touchAt->W_, touch_of->YM, getElem?_append_cases->TH, touchAt_of->ZG, served->Wy, offersAt_of_not_blocked->XC
open Go.Conc.Goes renaming running->UO
open Go.ConcN.RW renaming refl->N_
open Go.Frame renaming enter->Ur
open Go.MemAct renaming touch?->VH, ofEvent->Td
open List renaming map_congr_left->SF, map_nil->TV, nil_append->Tn, mem_toArray->Ya, mem_cons->SB, not_mem_nil->Ud
open Nat renaming le_refl->RQ, lt_of_lt_of_le->Sn, le_trans->RV, lt_or_ge->Us, eq_zero_or_pos->Vu
open Option renaming none->B_, some->A_, map_some->Si
open Option.some renaming injEq->Sk
set_option linter.all false
namespace Go.Rn
def own(L:dW)(β:Nat->Nat):Ren:=bf (fO L E_) β
structure Co(P:TB)(L:dW)(a j:Nat)(β:Nat->Nat)(C:List I_)(fr:I_)(cs:List I_)(w:C_)(g:H_)(W:C_):Prop where
 go:g=comp (own L β) C { frame:=fr,callers:=cs,status:=.running,dying:=B_ }
 inj:∀a b,a<w.heap.size->b<w.heap.size->β a=β b->a=b
 low:∀b,b<w.heap.size->β b<W.heap.size
 blk:∀b:Nat,b<w.heap.size->¬(a<=b/\b<a+j)->W.heap[β b]? = (w.heap[b]?).map (obj (own L β))
 fix:∀g,g<P.globals.size+1->β g=g
 os:W.os=w.os
 tight:jF L fr cs w
 rA:uM a j w
 fam:Fam P L a j fr cs w
 size:a+j<=w.heap.size
def lay(k K:Nat)(β:Nat->Nat)(b:Nat):Nat:=if b<k then β b else K+(b - k)
def answers(w W:C_)(i:Nat):UD->Nat:=if i<w.drawn then w.tape i else W.tape (W.drawn+(i - w.drawn))
def Co.step{P:TB}{L:dW}{a j:Nat}{β:Nat->Nat}{C:List I_}{fr fr':I_}{cs cs':List I_}{w w' W:C_}{g:H_}{es:Array K_}(A:Seat P L)(V:P.globals.size+1<=a)(H:Co P L a j β C fr cs w g W)(hC:∀f∈C,∀l k,f.todo≠.inRangeFunc l::k){main:Bool}(h:bP P fr cs { w with tape:=answers w W } fr' cs' w' es):
  ∃g' W',stepG P main g W=.go g' W' (evs (own L (lay w.heap.size W.heap.size β)) es)/\Co P L a j (lay w.heap.size W.heap.size β) C fr' cs' w' g' W'/\
   (∀c:Nat,c<W.heap.size->(∀b,b<w.heap.size->¬(a<=b/\b<a+j)->β b≠c)->W'.heap[c]? = W.heap[c]?)/\W'.tape=W.tape/\W'.output=W.output/\W'.heap.size+w.heap.size=w'.heap.size+W.heap.size/\∀e∈es,Fh a j e:=by
 have hτ:∀i,i<w.drawn->answers w W i=w.tape i:=λi hi=>by unfold answers;rw[RF hi]
 have T:=H.tight.tape (answers w W);have hW:=T.well A h.bot;obtain⟨k1,k2,k3,k4,k5,k6⟩:=sH (A.fit _ (kJ E_)) A.iI hW h;have a1:w.heap.size<=w'.heap.size:=k1;have Q:=H.size;obtain⟨R,D,hN⟩:=H.fam.step A V H.tight Q H.rA hτ h;have hn:=hN w'.heap.size (RQ _);have I:Trim L _ _ _:=aJm (a:=a) (j:=j) (G:=w'.heap.size) T;have F:∀e∈es,Fh a j e:=λe he=>aZt ((aIn A I hn).2 _ (Array.mem_map.2 ⟨e,he,rfl⟩))
 have r:∀b,(eF L w.heap.size).b b=b->β b=lay w.heap.size W.heap.size β b:=λb r=>by
  have:=zF r;unfold lay;rw[RF this]
 have hp:(eF L w.heap.size).bad .print=G_:=by simp[eF,bf,mover,okB]
 have ob:∀(b:Nat) (o:Obj),w.heap[b]? = A_ o->obj (own L β) o=obj (own L (lay w.heap.size W.heap.size β)) o:=λb o ho=>aFw r hp (H.tight.heap b o ho)
 have low:∀b,b<w.heap.size->lay w.heap.size W.heap.size β b=β b:=λb r=>by unfold lay;rw[RF r]
 have inj:∀a b,lay w.heap.size W.heap.size β a=lay w.heap.size W.heap.size β b->a=b:=by
  intro a b e;unfold lay at e;split at e<;>split at e
  ·next h1 h2=>exact H.inj a b h1 h2 e
  ·next h1 h2=>have:=H.low a h1;omega
  ·next h1 h2=>have:=H.low b h2;omega
  ·omega
 have fix:∀g,g<P.globals.size+1->lay w.heap.size W.heap.size β g=g:=λg z=>by rw[low g o7];exact H.fix g z
 generalize hB:lay w.heap.size W.heap.size β=B at *;generalize hG:w'.heap.size=G at *;have p:a<=G:=by omega
 have J:=bHm (L:=L) (β:=B) (j:=j) p;have O:∀y,y<G->¬y<a->eG a j G y=y+j:=λy h1 h2=>by unfold eG;simp[h1,h2]
 have m:∀y,y<w.heap.size - j->eG a j G y<w.heap.size/\¬(a<=eG a j G y/\eG a j G y<a+j):=λy u=>by
  by_cases h1:y<a
  ·have:eG a j G y=y:=by unfold eG;simp[h1]
   rw[this];omega
  ·rw[O y o7 h1];omega
 have t:∀x,w.heap.size<=x->B x=W.heap.size+(x - w.heap.size):=λx X=>by rw[<-hB];unfold lay;rw[RD o7]
 have Y:PC (toC L a j G B) (w.heap.size - j) W.heap.size (G - j):=by
  refine⟨λx y e=>aHg p (inj _ _ e),λy u _=>?_,λy h1 h2=>?_,λy h1 h2 z=>?_,λy z=>?_,λ_ h=>(by cases h),rfl⟩
  ·show B (eG a j G y)<_;rw[low _ (m y u).1];exact H.low _ (m y u).1
  ·show B (eG a j G y)=_;rw[O y o7 o7,t _ o7];omega
  ·show _<=B (eG a j G y)
   have a0:¬(G<=y/\y<G+j):=by
    intro K;have:(toC L a j G B).gh y=G_:=by simp[toC,K.1,K.2]
    rw[this]at z;cases z
   by_cases h3:y<G
   ·rw[O y h3 o7,t _ o7];omega
   ·have:eG a j G y=y:=by unfold eG;simp[show¬y<a by omega,h3,show¬y<G+j by omega]
    rw[this,t _ o7];omega
  ·have:G<=y/\y<G+j:=by simpa[toC]using z
   omega
 have S:=xP (P:=P) (d:=w'.drawn) (d0:=w.drawn) (D0:=W.drawn) (W0:=W) Y;have nz:=Ea (L:=L) (G:=G) Q;have a2:(eU L a j G { w with tape:=answers w W }).heap.size+j=w.heap.size:=nz
 have N:∀y,y<w.heap.size - j->(eU L a j G { w with tape:=answers w W }).heap[y]? = (w.heap[eG a j G y]?).map (obj (toN L a j G)):=λy u=>by
  have:=DZ (L:=L) (a:=a) (j:=j) (G:=G) (w:={ w with tape:=answers w W }) Q (by show w.heap.size<=_;omega) (x:=eG a j G y) (m y u).1 (by rw[yX];have:=(m y u).2;omega);rw[show(toN L a j G).b (eG a j G y)=y from IW p y]at this;exact this
 have q:QC (toC L a j G B) (w.heap.size - j) W.heap.size w'.drawn w.drawn W.drawn W (eU L a j G { w with tape:=answers w W }) W:=by
  refine⟨by omega,by omega,λy u _=>?_,λ_ h=>(by cases h),I.np,λi _=>?_,Nat.add_comm _ _,rfl,H.os,rfl,rfl,λ_ _ _=>rfl,λb r=>absurd rfl r⟩
  ·have n:y<w.heap.size - j:=by omega
   rw[N y n];show W.heap[B (eG a j G y)]? = _;rw[low _ (m y n).1,H.blk _ (m y n).1 (m y n).2];cases ho:w.heap[eG a j G y]? with
   |none=>rfl
   |some o=>
    simp only[Si];rw[ob _ o ho,Ih J];rfl
  ·show W.tape (W.drawn+i)=answers w W (w.drawn+i);unfold answers;rw[RD o7,Nat.add_sub_cancel_left]
 have h1:=xw (A.fit _ (aOj V p inj fix)) A.iI A.pl S (main:=main) (C:=C) hC I.nice (A.dom _ (rV I.top)) hn.bot q
 have s:∀fr cs,comp (toC L a j G B) C { frame:=frame (toN L a j G) fr,callers:=cs.map (frame (toN L a j G)),status:=.running,dying:=B_ }=comp (own L B) C { frame:=fr,callers:=cs,status:=.running,dying:=B_ }:=λfr cs=>by
  simp only[comp,Gt J,List.map_map,Goroutine.mk.injEq,and_true];refine⟨rfl,?_⟩
  congr 1
  exact SF λc _=>Gt J c
 have z:g=comp (own L B) C { frame:=fr,callers:=cs,status:=.running,dying:=B_ }:=by
  rw[H.go];simp only[comp];have e1:frame (own L β) fr=frame (own L B) fr:=LG r hp H.tight.top;have e2:cs.map (frame (own L β))=cs.map (frame (own L B)):=SF λc K=>LG r hp (H.tight.low c K)
  rw[e1,e2]
 dsimp only at h1;rw[s,<-z]at h1;have e:stepG P G_ { frame:=frame (toN L a j G) fr,callers:=cs.map (frame (toN L a j G)),status:=.running,dying:=B_ } (eU L a j G { w with tape:=answers w W })=.go { frame:=frame (toN L a j G) fr',callers:=cs'.map (frame (toN L a j G)),status:=.running,dying:=B_ } (eU L a j G w') (evs (toN L a j G) es):=hn;rw[e]at h1;have a3:(eU L a j G w').heap.size+j=G:=by rw[<-hG];exact Ea o7
 rcases h1 ⟨by show(eU L a j G w').heap.size<=_;omega,RQ _⟩with ho|⟨hv,_⟩|⟨fr2,cs2,w2,es2,e2,W',e3,q'⟩
 ·obtain⟨_,d,hd,_⟩:=ho;cases hd
 ·cases hv
 ·cases e2;have hz:=q'.size
  have M:evs (toC L a j G B) (evs (toN L a j G) es)=evs (own L B) es:=by
   unfold evs;rw[Array.map_map];exact Array.map_congr_left λx X=>aS3 p (F x X)
  rw[s,M]at e3
  have v:∀b,b<G->¬(a<=b/\b<a+j)->fJ a j G b<(eU L a j G w').heap.size:=λb h1 h2=>by
   unfold fJ;split
   ·omega
   ·rw[RD o7];split<;>omega
  refine⟨_,W',e3,⟨rfl,λa b _ _=>inj a b,λb r=>?_,λb r U=>?_,fix,?_,(EJ A T h.bot (by show _<=w.heap.size;omega) h).1,R,D,by omega⟩,λc h1 h2=>q'.other c h1 λy u=>?_,q'.ny,q'.out,by omega,F⟩
  ·by_cases E:b<w.heap.size
   ·rw[low b E];have:=H.low b E;omega
   ·rw[t b o7];omega
  ·have hi:=v b o7 U;have k:=q'.blk _ hi rfl;have Z:(toC L a j G B).b (fJ a j G b)=B b:=by show B (eG a j G (fJ a j G b))=B b;rw[Ey p]
   have e5:=DZ (L:=L) (a:=a) (j:=j) (G:=G) (w:=w') o7 o7 (x:=b) r (by rw[yX];omega);have e6:(eU L a j G w').heap[fJ a j G b]? = (w'.heap[b]?).map (obj (toN L a j G)):=e5;rw[Z,e6]at k;rw[k];cases w'.heap[b]? with
   |none=>rfl
   |some o=>simp only[Si];rw[Ih J];rfl
  ·rw[q'.os];rfl
  ·show B (eG a j G y)≠c;have n:y<w.heap.size - j:=u;rw[low _ (m y n).1];exact h2 _ (m y n).1 (m y n).2
end Go.Rn
namespace Go.Mw
section
open Go.Rn
variable {main:Bool} {R:(Nat->Prop)->C_->C_->Prop} {Stop:(Nat->Prop)->H_->C_->Prop} {fr c:I_} {Cs:List I_} {L:dW} {a j:Nat} {β:Nat->Nat} {cs:List I_} {Sh:Nat->Prop} {Post:D_->C_->Prop} {v0:D_}
inductive Rk where
 |zero
 |nu (f:C_->Rk)
inductive Rk.Lt:Rk->Rk->Prop
 |of (f:C_->Rk) (w:C_):Rk.Lt (f w) (.nu f)
def Oj:∀r:Rk,Acc Rk.Lt r
 | .zero=>⟨_,λ_ h=>nomatch h⟩
 | .nu f=>⟨_,λ_ h=>match h with| .of _ w=>Oj (f w)⟩
def Rk.nat:Nat->Rk
 |0=>.zero
 |n+1=>.nu λ_=>Rk.nat n
def more(S:Nat->Prop)(w w':C_)(b:Nat):Prop:=S b\/(w.heap.size<=b/\b<w'.heap.size)
def Tree(P:TB)(main:Bool)(R:(Nat->Prop)->C_->C_->Prop)(D:(Nat->Prop)->C_->C_->Array K_->Prop)(Stop:(Nat->Prop)->H_->C_->Prop):Rk->(Nat->Prop)->H_->C_->Prop
 | .zero,S,g,w=>∀w₁,R S w w₁->Stop S g w₁
 | .nu f,S,g,w=>∀w₁,R S w w₁->Stop S g w₁\/(g.status=.running/\∃g' w' es,stepG P main g w₁=.go g' w' es/\D S w₁ w' es/\Tree P main R D Stop (f w₁) (more S w₁ w') g' w')
structure EvS(Sh S:Nat->Prop)(e:K_):Prop where
 cell:∀a,e.loc=.cell a->S a.block\/(Sh a.block/\e.write=E_)
 obj:∀r,e.loc=.obj r->S r\/(Sh r/\e.write=E_)
 mark:∀m,e.loc=.mark m->pJ m=G_
structure Does(Sh S:Nat->Prop)(w w':C_)(es:Array K_):Prop where
 same:∀c:Nat,c<w.heap.size->¬S c->w'.heap[c]? = w.heap[c]?
 size:w.heap.size<=w'.heap.size
 tape:w'.tape=w.tape
 os:w'.os=w.os
 output:w'.output=w.output
 evs:∀e∈es,EvS Sh (more S w w') e
def Tree.rely{P:TB}{D:(Nat->Prop)->C_->C_->Array K_->Prop}(e:∀S a b c,R S a b->R S b c->R S a c):∀{r:Rk} {S:Nat->Prop} {g:H_} {w w₁:C_},Tree P main R D Stop r S g w->R S w w₁->Tree P main R D Stop r S g w₁
 | .zero,_,_,_,_,h,k=>λd k2=>h d (e _ _ _ _ k k2)
 | .nu _,_,_,_,_,h,k=>λd k2=>h d (e _ _ _ _ k k2)
def Tree.step{P:TB}{main:Bool}{R:(Nat->Prop)->C_->C_->Prop}{D:(Nat->Prop)->C_->C_->Array K_->Prop}{Stop:(Nat->Prop)->H_->C_->Prop}{S:Nat->Prop}{g:H_}{w:C_}(b:g.status=.running)(h:∀a,R S w a->∃g' w' es,stepG P main g a=.go g' w' es/\D S a w' es/\∃r,Tree P main R D Stop r (more S a w') g' w'):∃r,Tree P main R D Stop r S g w:=by
 have:∀a,∃r,R S w a->∃g' w' es,stepG P main g a=.go g' w' es/\D S a w' es/\Tree P main R D Stop r (more S a w') g' w':=by
  intro a
  by_cases k:R S w a
  ·obtain⟨g',w',es,h1,h2,r,h3⟩:=h a k;exact⟨r,λ_=>⟨g',w',es,h1,h2,h3⟩⟩
  ·exact⟨.zero,λc=>absurd c k⟩
 refine⟨.nu λa=>ZJ (this a),λa k=>.inr ⟨b,?_⟩⟩;exact Xh (this a) k
def Tree.all{P:TB}{D:(Nat->Prop)->C_->C_->Array K_->Prop}(e:∀S a b,R S a b->R S b b){S:Nat->Prop}{g:H_}{w:C_}(h:∀c,R S w c->∃r,Tree P main R D Stop r S g c):∃r,Tree P main R D Stop r S g w:=by
 have:∀c,∃r:Rk,R S w c->Stop S g c\/(g.status=.running/\∃g' w' es,stepG P main g c=.go g' w' es/\D S c w' es/\Tree P main R D Stop r (more S c w') g' w'):=λc=>by
  by_cases d:R S w c
  ·obtain⟨r,h2⟩:=h c d;cases r with
   |zero=>exact⟨.zero,λ_=>.inl (h2 c (e _ _ _ d))⟩
   |nu f=>exact⟨f c,λ_=>h2 c (e _ _ _ d)⟩
  ·exact⟨.zero,λi=>absurd i d⟩
 exact⟨.nu λc=>ZJ (this c),λc d=>Xh (this c) d⟩
def Tree.bind{P:TB}{D:(Nat->Prop)->C_->C_->Array K_->Prop}{c:(Nat->Prop)->H_->C_->Prop}(i:∀S a b,R S a b->R S b b):
  ∀{r:Rk} {S:Nat->Prop} {g:H_} {w:C_},Tree P main R D Stop r S g w->
   (∀S g w,R S w w->Stop S g w->∃r,Tree P main R D c r S g w)->∃r,Tree P main R D c r S g w
 | .zero,S,g,w,h,k=>Tree.all i λd e=>k S g d (i _ _ _ e) (h d e)
 | .nu f,S,g,w,h,k=>by
  have:∀d,∃r:Rk,R S w d->c S g d\/(g.status=.running/\∃g' w' es,stepG P main g d=.go g' w' es/\D S d w' es/\Tree P main R D c r (more S d w') g' w'):=λd=>by
   by_cases e:R S w d
   ·rcases h d e with j|⟨m,g',w',es,h1,h2,h3⟩
    ·obtain⟨r,h2⟩:=k S g d (i _ _ _ e) j;cases r with
     |zero=>exact⟨.zero,λ_=>.inl (h2 d (i _ _ _ e))⟩
     |nu f=>exact⟨f d,λ_=>h2 d (i _ _ _ e)⟩
    ·obtain⟨r,l⟩:=Tree.bind i h3 k;exact⟨r,λ_=>.inr ⟨m,g',w',es,h1,h2,l⟩⟩
   ·exact⟨.zero,λn=>absurd n e⟩
  exact⟨.nu λd=>ZJ (this d),λd e=>Xh (this d) e⟩
def aHf{P:TB}{fn:Func}{t:Tmp}(h:fn.results=#[.tmp t])(tmps:Array D_)(w:C_)(es:Array K_):(results fn tmps).runT P w es=(.ok (tmps.getD t undef) w,es):=by
 unfold results;have:=lmS;rw[h,Array.mapM_eq_mapM_toList];simp only[List.mapM_cons,List.mapM_nil];rfl
def bDt{P:TB}{fn:Func}{t:Tmp}(h:fn.results=#[.tmp t])(tmps:Array D_)(w:C_):(results fn tmps).run P w=.ok (tmps.getD t undef) w:=by
 rw[<-Sem.runT_fst P _ w #[],aHf h]
def aXd{P:TB}{π:Ren}{v:D_}{w W:C_}{fn:Func}{t:Tmp}(i:π.f fr.fn=fr.fn)(h:fr.leaving P w (.returned v))(a:P.funcs[fr.fn]? = A_ fn)(e:fn.results=#[.tmp t]):
  stepG P main (comp π (c::Cs) { frame:=fr,callers:=[],status:=.running,dying:=B_ }) W=.go { frame:=c.finish (val π v),callers:=Cs,status:=.running,dying:=B_ } W #[]:=by
 obtain⟨h1,h2,h3,g,d,b⟩:=h;rw[a]at d;cases d;rw[bDt e]at b;simp only[Result.ok.injEq,and_true]at b;unfold comp stepG;have k1:(frame π fr).mode=.returning:=by simp[frame,mode,h1]
 have k2:(frame π fr).defers=[]:=by simp[frame,h2]
 have k3:(frame π fr).kind=.normal:=h3;have j:(frame π fr).fn=fr.fn:=i;have k:(frame π fr).tmps=vals π fr.tmps:=rfl;simp only[k1];unfold unwind;simp only[k1,k2,j,a,k,aHf e,TV,Tn,doReturn,k3,Gv,b];simp[GStep.after,seen]
def aOg{P:TB}{C:List I_}{w W W₁:C_}{g:H_}(h:Co P L a j β C fr cs w g W)(c:∀b,b<w.heap.size->W₁.heap[β b]? = W.heap[β b]?)(d:W.heap.size<=W₁.heap.size)(ho:W₁.os=W.os):Co P L a j β C fr cs w g W₁:=
 ⟨h.go,h.inj,λb k=>Sn (h.low b k) d,λb k hk=>by rw[c b k];exact h.blk b k hk,h.fix,by rw[ho];exact h.os,h.tight,h.rA,h.fam,h.size⟩
def AA(c:I_)(Cs:List I_)(v:D_)(_:Nat->Prop)(g:H_)(_:C_):Prop:=g={ frame:=c.finish v,callers:=Cs,status:=.running,dying:=B_ }
def aU3{P:TB}{n:Nat}{O:C_->Prop}{Rl:I_->List I_->C_->Prop}{w:C_}(h:Rn.Goes P n O Rl fr cs w):O w:=by cases h<;>assumption
def bHq{P:TB}{D:(Nat->Prop)->C_->C_->Array K_->Prop}{n:Nat}{H:Array Obj}(A:Seat P L)(ha:P.globals.size+1<=n){f:XG}{fn:Func}{t:Tmp}(a2:P.funcs[f]? = A_ fn)(Z:fn.results=#[.tmp t])(hC:∀f∈c::Cs,∀l k,f.todo≠.inRangeFunc l::k)(hv:∀v w,Post v w->v=v0/\∀π,val π v=v)(hR:∀S W p,R S W p->(∀b,Sh b\/S b->p.heap[b]? = W.heap[b]?)/\W.heap.size<=p.heap.size/\p.os=W.os)(hD:∀S W N es,(∃W₀,R S W₀ W)->Does Sh S W N es->D S W N es){w:C_}(h:Rn.Goes P n (vJ n H) (λfr cs w=>Rn.Left P f Post fr cs w/\NP w) fr cs w):
  ∀{β:Nat->Nat} {g:H_} {W:C_} {S:Nat->Prop},Co P L n j β (c::Cs) fr cs w g W->(∀b,b<n+j->Sh (β b))->(∀b,n+j<=b->b<w.heap.size->S (β b))->
   ∃r,Tree P main R D (AA c Cs v0) r S g W:=by
 induction h with
 |@leaf fr cs w ho z=>
  intro β g W S u K C;refine Tree.step (by rw[u.go];rfl) λp G=>?_
  obtain⟨⟨⟨rfl,rfl⟩,v,a4,hp⟩,b4⟩:=z;obtain⟨rfl,b2⟩:=hv v w hp;have e:=aXd (main:=main) (π:=own L β) (c:=c) (Cs:=Cs) (W:=p) rfl a4 a2 Z;rw[<-u.go,b2]at e;refine⟨_,p,#[],e,hD _ _ _ _ ⟨_,G⟩ ⟨λ_ _ _=>rfl,RQ _,rfl,rfl,rfl,λe he=>by simp at he⟩,.zero,λ_ _=>rfl⟩
 |@step fr cs w ho h1 h2 ih=>
  intro β g W S u K C;have hn:=u.size;refine Tree.step (by rw[u.go];rfl) λp G=>?_
  obtain⟨a8,a9,b0⟩:=hR _ _ _ G
  have y:=aOg u (λb q=>a8 _ (by
   by_cases s:b<n+j
   ·exact .inl (K b s)
   ·exact .inr (C b o7 q))) a9 b0
  have hτ:∀i,i<w.drawn->answers w p i=w.tape i:=λi hi=>by unfold answers;rw[RF hi]
  obtain⟨fr',b3,w',es,z,a5,b5⟩:=h1 _ hτ;obtain⟨g',N,e1,I,X,M,Y,b1,U⟩:=Co.step A ha y hC z;have a6:=aU3 (h2 _ hτ _ _ _ _ z);have T1:=y.tight.tape (answers w p);obtain⟨k1,-⟩:=sH (A.fit _ (kJ E_)) A.iI (T1.well A z.bot) z;have b6:w.heap.size<=w'.heap.size:=k1;have a3:=(EJ A T1 z.bot (by show _<=w.heap.size;omega) z).2;have low:∀b,b<w.heap.size->lay w.heap.size p.heap.size β b=β b:=λb q=>by unfold lay;rw[RF q]
  have F:∀b,b<n+j->Sh (lay w.heap.size p.heap.size β b):=λb q=>by rw[low b o7];exact K b q
  have E:∀b,n+j<=b->b<w'.heap.size->more S p N (lay w.heap.size p.heap.size β b):=λb h1 h2=>by
   by_cases q:b<w.heap.size
   ·rw[low b q];exact .inl (C b h1 q)
   ·refine .inr ?_;unfold lay;rw[RD q];omega
  have q:∀b,(eF L w.heap.size).b b=b->β b=lay w.heap.size p.heap.size β b:=λb q=>(low b (zF q)).symm
  have a7:(eF L w.heap.size).bad .print=G_:=by simp[eF,bf,mover,okB]
  refine⟨g',N,_,e1,hD _ _ _ _ ⟨_,G⟩ ⟨λx O hs=>?_,by omega,M,?_,Y,λe he=>?_⟩,ih _ hτ _ _ _ _ z I F E⟩
  ·by_cases a1:∃b,b<w.heap.size/\¬(n<=b/\b<n+j)/\β b=x
   ·obtain⟨b,J,Q,rfl⟩:=a1
    have s:b<n:=by
     apply SL;intro s;exact hs (C b o7 J)
    have e3:=I.blk b o7 Q;rw[low b J]at e3;rw[e3,y.blk b J Q,a6 b s,<-ho b s];cases hob:w.heap[b]? with
    |none=>rfl
    |some o=>
     simp only[Si];rw[show obj (own L β) o=obj (own L (lay w.heap.size p.heap.size β)) o from aFw q a7 (y.tight.heap b o hob)]
   ·exact X x O λb q hg e=>a1 ⟨b,q,hg,e⟩
  ·rw[I.os,y.os];obtain⟨_,_,_,_,k5,_⟩:=sH (A.fit _ (kJ E_)) A.iI (T1.well A z.bot) z;exact k5
  ·obtain⟨x,O,rfl⟩:=Array.mem_map.1 he;have hf:=a3 x O;have T:=a5 x O;have B:loc (eF L w'.heap.size) x.write x.loc=x.loc:=RJ Event.loc hf
   have go:∀b,b<w'.heap.size->¬(n<=b/\b<n+j)->(x.write=G_->n<=b)->(more S p N (lay w.heap.size p.heap.size β b)\/(Sh (lay w.heap.size p.heap.size β b)/\x.write=E_)):=by
    intro b h3 h5 h4
    by_cases s:b<n
    ·refine .inr ⟨F b o7,?_⟩;cases hxw:x.write with
     |false=>rfl
     |true=>have:=h4 hxw;omega
    ·exact .inl (E b o7 h3)
   refine⟨λa ha=>?_,λr hr=>?_,λm hm=>?_⟩
   ·have d:loc (own L (lay w.heap.size p.heap.size β)) x.write x.loc=.cell a:=ha;cases hxl:x.loc with
    |cell a0=>
     rw[hxl]at d B
     have e4:cut w'.heap.size a0.block=a0.block:=by
      have:=RJ (λl=>match l with| .cell a=>a.block|_=>0) B
      simpa[loc,eF,bf,show(mover L).vg=λ_=>E_ from rfl]using this
     have e5:a.block=lay w.heap.size p.heap.size β a0.block:=by
      have:=RJ (λl=>match l with| .cell a=>a.block|_=>0) d
      simpa[loc,own,bf,show(fO L E_).vg=λ_=>E_ from rfl]using this.symm
     rw[e5];exact go _ (zF e4) ((U x O).1 a0 hxl) λG=>(T G).1 a0 hxl
    |mark m0=>
     rw[hxl]at d;simp only[loc]at d;split at d
     ·cases d
     ·split at d<;>cases d
    |_=>rw[hxl]at d;cases d
   ·have d:loc (own L (lay w.heap.size p.heap.size β)) x.write x.loc=.obj r:=hr;cases hxl:x.loc with
    |obj a0=>
     rw[hxl]at d B
     have e4:cut w'.heap.size a0=a0:=by
      have:=RJ (λl=>match l with| .obj a=>a|_=>0) B
      simpa[loc,eF,bf,show(mover L).vg=λ_=>E_ from rfl]using this
     have e5:r=lay w.heap.size p.heap.size β a0:=by
      have:=RJ (λl=>match l with| .obj a=>a|_=>0) d
      simpa[loc,own,bf,show(fO L E_).vg=λ_=>E_ from rfl]using this.symm
     rw[e5];exact go _ (zF e4) ((U x O).2 a0 hxl) λG=>(T G).2 a0 hxl
    |mark m0=>
     rw[hxl]at d;simp only[loc]at d;split at d
     ·cases d
     ·split at d<;>cases d
    |_=>rw[hxl]at d;cases d
   ·have d:loc (own L (lay w.heap.size p.heap.size β)) x.write x.loc=.mark m:=hm;cases hxl:x.loc with
    |mark m0=>
     have V:=aYh hf hxl;rw[hxl]at d;simp only[loc,V,if_true]at d;cases d;exact V
    |_=>rw[hxl]at d;cases d
end
end Go.Mw
namespace Go.Rn
def yx:Obj->Obj
 | .cells c e _=>.cells c e (0,c.size)
 |o=>o
def tL(a:Nat)(w:C_):C_:={ w with heap:=w.heap.mapIdx λi o=>if i<a then yx o else o }
variable {a:Nat} {L:dW} {args:Array D_} {j:Nat}
def DF(a:Nat)(w:C_)(b:Nat):(tL a w).heap[b]? = (w.heap[b]?).map λo=>if b<a then yx o else o:=by
 simp[tL,Array.getElem?_mapIdx]
def DI(a:Nat)(w:C_):(tL a w).heap.size=w.heap.size:=by simp[tL]
def bCq{w:C_}(h:∀b:Nat,b<a->∃c e f,w.heap[b]? = A_ (.cells c e f)/\f.1=f.2)(hn:NP w):QA a w (tL a w) w:=by
 refine⟨(DI a w).symm,λb o d=>?_,λb o d=>?_,rfl,rfl,rfl,rfl,λb d=>?_⟩
 ·rw[DF]at d;cases hx:w.heap[b]? with
  |none=>rw[hx]at d;cases d
  |some o0=>
   rw[hx]at d;simp only[Si,Sk]at d;refine⟨o0,rfl,?_⟩
   by_cases g:b<a
   ·obtain⟨c,e,f,h1,h2⟩:=h b g;rw[hx]at h1;cases h1;simp only[g,if_true,yx]at d;exact .inr ⟨c,e,(0,c.size),f,d.symm,rfl,.inl h2⟩
   ·simp only[g,if_false]at d;exact .inl d
 ·rw[DF]at d;cases hx:w.heap[b]? with
  |none=>rw[hx]at d;cases d
  |some o0=>
   rw[hx]at d;simp only[Si,Sk]at d;have:=hn b o0 hx;subst d;split
   ·cases o0<;>first|exact this|rfl
   ·exact this
 ·obtain⟨c,e,f,h1,h2⟩:=h b d;refine⟨c,e,(0,c.size),f,f,?_,.inr ⟨rfl,RQ _⟩,h1,h1,.inl rfl⟩;rw[DF,h1];simp[d,yx]
def aVk{ρ:Ren}{o:Obj}(h:obj ρ o=o):obj ρ (yx o)=yx o:=by
 cases o with
 |cells c e f=>
  simp only[obj,Obj.cells.injEq,and_true]at h;simp only[yx,obj,h]
 |_=>exact h
def aJc{P:TB}(A:Seat P L){f:XG}{w:C_}(e:L.fs f=G_)(g:P.globals.size+1<=w.heap.size)(a:∀π:Ren,vals π args=args)(h:∀(b:Nat) (o:Obj),w.heap[b]? = A_ o->obj (eF L w.heap.size) o=o)(hn:NP w):
  jF L (Ur P f args .normal) [] w:=
 ⟨by rw[Dn (A.fit _ (aAf g)) A.iI e,a],(λc d=>by cases d),h,rfl,hn⟩
def aTg{P:TB}(A:Seat P L)(q:P.globals.size+1<=a){f:XG}{w:C_}(s:L.fs f=G_)(p:∀π:Ren,vals π args=args)(T:jF L (Ur P f args .normal) [] w)(u:a+j<=w.heap.size)(h:∀G,w.heap.size<=G->∀τ:Nat->UD->Nat,Calls P f args (eU L a j G { w with tape:=τ }) λe _=>∃v,e=.returned v/\True):Fam P L a j (Ur P f args .normal) [] w:=by
 intro G l τ _;have e:frame (toN L a j G) (Ur P f args .normal)=Ur P f args .normal:=by rw[Dn (A.fit _ (aAg q o7)) A.iI s,p]
 rw[e,TV];obtain⟨_,w1,m,⟨v,rfl,_⟩,r,_,d⟩:=h G l τ [];obtain⟨_,w2,o,⟨x,rfl,_⟩,b,_,g⟩:=h G l τ [wall];obtain⟨n,hn⟩:=r;obtain⟨t,i⟩:=b;have k:=aJm (a:=a) (j:=j) (G:=G) (T.tape τ);rw[e,TV]at k;have c:=Rz A (λ_ _ _ h=>⟨h.nice,h.np⟩) (λ_ _ _ _ _ _ _ h d=>(aIn A h d).1) g n t _ [] _ k hn (by simpa using i);refine c.mono ?_;rintro fr cs w' ⟨rfl,rfl,_,_⟩;exact⟨rfl,v,w1,d⟩
end Go.Rn
namespace Go.Mw
section
open Go.Rn
variable {L:dW} {main:Bool} {R:(Nat->Prop)->C_->C_->Prop} {Sh:Nat->Prop} {a j:Nat} {Post:D_->C_->Prop} {c:I_} {Cs:List I_} {v0:D_} {args:Array D_} {β:Nat->Nat}
def aNq{P:TB}{D:(Nat->Prop)->C_->C_->Array K_->Prop}(A:Seat P L)(O:P.globals.size+1<=a){f:XG}{fn:Func}{t:Tmp}(F:L.fs f=G_)(J:P.funcs[f]? = A_ fn)(C:fn.results=#[.tmp t])(E:∀π:Ren,vals π args=args)(U:∀f∈c::Cs,∀l k,f.todo≠.inRangeFunc l::k)(Z:∀S W W₁,R S W W₁->(∀b,Sh b\/S b->W₁.heap[b]? = W.heap[b]?)/\W.heap.size<=W₁.heap.size/\W₁.os=W.os)(V:∀S W W' es,(∃W₀,R S W₀ W)->Does Sh S W W' es->D S W W' es){w W:C_}{S:Nat->Prop}(hs:w.heap.size=a+j)(p:∀b:Nat,b<a->∃c e f,w.heap[b]? = A_ (.cells c e f)/\f.1=f.2)(h:uM a j w)(N:∀(b:Nat) (o:Obj),w.heap[b]? = A_ o->obj (eF L w.heap.size) o=o)(n:∀x y,x<a+j->y<a+j->β x=β y->x=y)(s:∀b,b<a+j->β b<W.heap.size)(z:∀b:Nat,b<a->W.heap[β b]? = (w.heap[b]?).map (obj (own L β)))(m:∀g,g<P.globals.size+1->β g=g)(K:W.os=w.os)(M:∀b,b<a+j->Sh (β b))(Y:∀v w τ,Post v { w with tape:=τ }->Post v w)(X:∀v w',Post v w'->vJ a w.heap w')(hv:∀v w',Post v w'->v=v0/\∀π,val π v=v)(h1:∀τ:Nat->UD->Nat,Calls P f args { w with tape:=τ } λe w'=>∃v,e=.returned v/\Post v w')(h2:∀τ:Nat->UD->Nat,Calls P f args { tL a w with tape:=τ } λe _=>∃v,e=.returned v/\True)(h3:∀G,w.heap.size<=G->∀τ:Nat->UD->Nat,Calls P f args (eU L a j G { w with tape:=τ }) λe _=>∃v,e=.returned v/\True):
  ∃r,Tree P main R D (AA c Cs v0) r S { frame:=Ur P f args .normal,callers:=c::Cs,status:=.running,dying:=B_ } W:=by
 have hn:NP w:=λb o d=>by
  have a0:=(Sb.1 d).1
  by_cases I:b<a
  ·obtain⟨c,e,f,i,_⟩:=p b I;rw[d]at i;cases i;rfl
  ·have:=h b o7 o7;rw[d]at this;cases this;rfl
 have B:P.globals.size+1<=w.heap.size:=by omega
 have T:=aJc A F B E N hn;have q:=bCq p hn
 have Q:jF L (Ur P f args .normal) [] (tL a w):=aJc A F (by rw[DI];exact B) E (λb o d=>by
  rw[DF]at d;cases H:w.heap[b]? with
  |none=>rw[H]at d;cases d
  |some o0=>
   rw[H]at d;simp only[Si,Sk]at d;have h0:=N b o0 H;rw[DI];subst d;split
   ·exact aVk h0
   ·exact h0) q.np
 have G:=aU2 A q Y X Q T (by rw[DI];exact B) h2 h1;refine bHq A (j:=j) O J C U hv Z V G (β:=β) ⟨?_,λx y i u=>n x y o7 o7,λb d=>s b o7,λb d H=>z b o7,m,K,T,h,aTg A O F E T o7 h3,by omega⟩ M (λb i u=>by omega)
 have e:frame (own L β) (Ur P f args .normal)=Ur P f args .normal:=by
  have hc:Cond P L (own L (lay (a+j) W.heap.size β)):=(kJ E_).bf (λx y e=>by
   unfold lay at e;split at e<;>split at e
   ·next i u=>exact n x y i u e
   ·next i u=>have:=s x i;omega
   ·next i u=>have:=s y u;omega
   ·omega) λg B=>by unfold lay;rw[RF o7];exact m g B
  have e1:=Dn (args:=args) (k:=.normal) (A.fit _ hc) A.iI F;rw[E]at e1;have hp:(eF L w.heap.size).bad .print=G_:=by simp[eF,bf,mover,okB]
  have e2:frame (own L β) (Ur P f args .normal)=frame (own L (lay (a+j) W.heap.size β)) (Ur P f args .normal):=LG (λb d=>by
   have:=zF d;unfold lay;rw[RF o7]) hp T.top
  rw[e2,e1]
 simp only[comp,e,TV,Tn]
end
abbrev Io:=Os×Array (Nat×ByteArray)
def io(w:C_):Io:=(w.os,w.output)
variable {w':C_}
def zT{w:C_}(h:w'.os=w.os)(k:w'.output=w.output):io w'=io w:=by unfold io;rw[h,k]
section
open Go.Rn Go.Conc
open Go.ConcR (WgAt stA smA KK rd wr mk Payload again_blocked g_of_ofEvents loc_of_ofEvent)
structure Place where
 ty:TypeId
 ety:TypeId
 Wg:Nat
 Ch:Nat
 An:Nat
 m:Nat
 Low:Nat
 Ei:Nat->Prop
 Ej:Nat->Prop
 wg:Wg<Low
 ch:Ch<Low
 an:An<Low
 gc:Wg≠Ch
 ga:Wg≠An
 ca:Ch≠An
 ow:∀b,Ei b\/Ej b->b<Low/\b≠Wg/\b≠Ch/\b≠An
 fx:C_->Prop
 yu:∀w w₁:C_,(∀b:Nat,b<Low/\b≠Wg/\b≠Ch/\b≠An/\¬(Ei b\/Ej b)->w₁.heap[b]? = w.heap[b]?)->w.heap.size<=w₁.heap.size->io w₁=io w->fx w->fx w₁
end
section
open Go.Rn Go.Conc
open Go.ConcR (WgAt stA smA KK rd wr mk Payload again_blocked g_of_ofEvents loc_of_ofEvent)
variable (p:Place)
def AQ(w:C_):Prop:=∃cs:Array D_,w.heap[p.An]? = A_ (.cells cs p.ety)/\cs.size=p.m
def gU(cl:Bool)(w:C_):Prop:=∃s r,w.heap[p.Ch]? = A_ (.chan 0 #[] cl s r E_)
structure GI(w:C_):Prop where
 wg:∃st sm,WgAt p.ty p.Wg w st sm
 ch:∃cl,gU p cl w
 an:AQ p w
 low:p.Low<=w.heap.size
 fx:p.fx w
def kW(b:Nat):Prop:=b<p.Low/\b≠p.Wg/\b≠p.Ch/\b≠p.An/\¬(p.Ei b\/p.Ej b)
structure Rl(J S:Nat->Prop)(w w₁:C_):Prop where
 gi:GI p w₁
 low:∀b:Nat,kW p b->w₁.heap[b]? = w.heap[b]?
 own:∀b:Nat,S b->w₁.heap[b]? = w.heap[b]?
 cell:∀j,J j->w₁.cell? ⟨p.An,j,B_⟩=w.cell? ⟨p.An,j,B_⟩
 size:w.heap.size<=w₁.heap.size
 os:io w₁=io w
structure Own(J S:Nat->Prop)(w w':C_):Prop where
 same:∀b:Nat,b<w.heap.size->¬S b->b≠p.An->w'.heap[b]? = w.heap[b]?
 an:AQ p w->AQ p w'
 cell:∀j,¬J j->w'.cell? ⟨p.An,j,B_⟩=w.cell? ⟨p.An,j,B_⟩
 size:w.heap.size<=w'.heap.size
 os:io w'=io w
structure EvW(J S:Nat->Prop)(e:K_):Prop where
 cell:∀a,e.loc=.cell a->S a.block\/(a.block=p.An/\J a.off)\/(kW p a.block/\e.write=E_)
 obj:∀r,e.loc=.obj r->S r\/(kW p r/\e.write=E_)
 mark:∀m,e.loc=.mark m->pJ m=G_
def DW(J S:Nat->Prop)(w w':C_)(es:Array K_):Prop:=Own p J S w w'/\∀e∈es,EvW p J (more S w w') e
end
section
open Go.Rn Go.Conc
open Go.ConcR (WgAt stA smA KK rd wr mk Payload again_blocked g_of_ofEvents loc_of_ofEvent)
variable {w₁ w₂:C_} {J' S':Nat->Prop} {es:Array K_}
def Rl.refl{p:Place}{J S:Nat->Prop}{w:C_}(h:GI p w):Rl p J S w w:=⟨h,λ_ _=>rfl,λ_ _=>rfl,λ_ _=>rfl,RQ _,rfl⟩
def Rl.trans{p:Place}{J S:Nat->Prop}{w:C_}(h:Rl p J S w w₁)(k:Rl p J S w₁ w₂):Rl p J S w w₂:=
 ⟨k.gi,λb x=>(k.low b x).trans (h.low b x),λb x=>(k.own b x).trans (h.own b x),λj x=>(k.cell j x).trans (h.cell j x),RV h.size k.size,k.os.trans h.os⟩
def Rl.back{p:Place}{J S:Nat->Prop}{w:C_}(h:Rl p J S w w₁):Rl p J S w₁ w₁:=.refl h.gi
def GI.at{p:Place}{w:C_}(h:GI p w)(d:Nat):GI p (w.at d):=⟨h.wg,h.ch,h.an,h.low,p.yu w _ (λ_ _=>rfl) (RQ _) rfl h.fx⟩
def Rl.at{p:Place}{J S:Nat->Prop}{w:C_}(h:GI p w)(d:Nat):Rl p J S w (w.at d):=⟨h.at d,λ_ _=>rfl,λ_ _=>rfl,λ_ _=>rfl,RQ _,rfl⟩
def GI.Ij{p:Place}{w:C_}(h:GI p w)(k:Own p J' S' w w₁)(c:∀b,S' b->p.Low<=b):GI p w₁:=by
 have a:∀b,b<p.Low->b≠p.An->w₁.heap[b]? = w.heap[b]? :=λb d e=>k.same b (by have:=h.low;omega) (λg=>by have:=c b g;omega) e
 obtain⟨st,sm,i⟩:=h.wg;obtain⟨cl,s,r,f⟩:=h.ch;exact⟨⟨st,sm,(a _ p.wg p.ga).trans i⟩,⟨cl,s,r,(a _ p.ch p.ca).trans f⟩,k.an h.an,RV h.low k.size,p.yu _ _ (λb d=>a b d.1 d.2.2.2.1) k.size k.os h.fx⟩
def Rl.Ij{p:Place}{J S:Nat->Prop}{w:C_}(h:GI p w)(k:Own p J' S' w w₁)(c:∀b,S' b->p.Low<=b)(d:∀b,S b->¬S' b/\p.Low<=b/\b<w.heap.size)(f:∀j,J j->¬J' j):Rl p J S w w₁:=
 ⟨h.Ij k c,λb a=>k.same b (by have:=h.low;have:=a.1;omega) (λi=>by have:=c b i;have:=a.1;omega) a.2.2.2.1,
  λb a=>k.same b (d b a).2.2 (d b a).1 (λe=>by have:=(d b a).2.1;have:=p.an;omega),λj g=>k.cell j (f j g),k.size,k.os⟩
def Rl.Ed{p:Place}{J S:Nat->Prop}{w:C_}{c:Nat}(i:GI p w₁)(d:c=p.Wg\/c=p.Ch)(h:∀b:Nat,b≠c->w₁.heap[b]? = w.heap[b]?)(l:w₁.heap.size=w.heap.size)(ho:io w₁=io w)(g:∀b,S b->p.Low<=b):Rl p J S w w₁:=by
 have k:c<p.Low:=by
  rcases d with rfl|rfl
  ·exact p.wg
  ·exact p.ch
 have f:p.An≠c:=by
  rcases d with rfl|rfl
  ·exact λe=>p.ga e.symm
  ·exact λe=>p.ca e.symm
 refine⟨i,λb a=>h b ?_,λb a=>h b (λe=>by have:=g b a;omega),λj _=>by simp only[World.cell?,h p.An f],by omega,ho⟩;rcases d with rfl|rfl
 ·exact a.2.1
 ·exact a.2.2.1
def aRl{p:Place}{J S:Nat->Prop}{w:C_}(h:Does (kW p) S w w₁ es)(l:GI p w)(f:∀b,S b->p.Low<=b):DW p J S w w₁ es:=by
 have d:=h.same p.An (Sn p.an l.low) λc=>by have:=f _ c;have:=p.an;omega
 refine⟨⟨λb i c _=>h.same b i c,λ⟨cs,h1,h2⟩=>⟨cs,d.trans h1,h2⟩,λj _=>by simp only[World.cell?,d],h.size,zT h.os h.output⟩,λe k=>?_⟩;have:=h.evs e k;exact⟨λa g=>(this.cell a g).imp id .inr,λr m=>this.obj r m,this.mark⟩
end
section
open Go.Rn Go.Conc
open Go.ConcN (PermW fork_knows Deaf_absent RelBy RelBy.appNot Deaf_still upd upd_same upd_ne sumTo sumTo_upd sumTo_congr)
variable (p:Place)
def vK(J S:Nat->Prop)(l:Loc):Prop:=(∃a,l=.cell a/\(S a.block\/(a.block=p.An/\J a.off)))\/∃r,l=.obj r/\S r
def sS(l:Loc):Prop:=(∃a,l=.cell a/\kW p a.block)\/∃r,l=.obj r/\kW p r
def dX(l:Loc):Prop:=(∃a,l=.cell a/\(a.block=p.Wg\/p.Ei a.block))\/∃r,l=.obj r/\(r=p.Ch\/p.Ej r)
structure Sep(e n:Nat)(J S:Nat->Nat->Prop):Prop where
 pos:0<e
 le:e<=n
 s:∀k k' b,e<=k->k<n->e<=k'->k'<n->S k b->S k' b->k=k'
 j:∀k k' b,e<=k->k<n->e<=k'->k'<n->J k b->J k' b->k=k'
 low:∀k b,e<=k->k<n->S k b->p.Low<=b
structure TI(e n:Nat)(J S:Nat->Nat->Prop)(H:Nat->Prop)(B:Nat)(t:Trace):Prop where
 nr:∀said,¬Race said t
 quiet:Quiet (dX p) t
 own:∀k,e<=k->k<n->∀l,vK p (J k) (S k) l->Perm t k l
 Ev:∀k,e<=k->k<n->∀l,sS p l->PermW t k l
 Ce:∀l,sS p l->PermW t 0 l
 seen:∀op∈t,op.act.low B
 an:∀i x a,W_ t i=A_ x->x.loc=.cell a->a.block=p.An->H a.off
 gs:∀(i:Nat) (op:MemOp),t[i]? = A_ op->op.g<n
def JX(e n:Nat)(J S:Nat->Nat->Prop)(g:Nat)(x:Touch):Prop:=
 (e<=g/\g<n/\vK p (J g) (S g) x.loc)\/(sS p x.loc/\x.write=E_/\(g=0\/(e<=g/\g<n)))\/(dX p x.loc/\x.kind≠.plain/\(x.kind=.said->g=0))
end
section
open Go.Rn Go.Conc
open Go.ConcN (PermW fork_knows Deaf_absent RelBy RelBy.appNot Deaf_still upd upd_same upd_ne sumTo sumTo_upd sumTo_congr)
variable {e:Nat} {T H:Nat->Prop} {B:Nat} {t u:Trace} {H':Nat->Prop} {x y:MemOp}
def Sep.ownRd{p:Place}{n:Nat}{J S:Nat->Nat->Prop}(A:Sep p e n J S){k:Nat}(h1:e<=k)(h2:k<n){l:Loc}(ho:vK p (J k) (S k) l)(c:sS p l):False:=by
 rcases ho with⟨a,rfl,d|⟨f,_⟩⟩|⟨r,rfl,d⟩
 ·rcases c with⟨a',b,c⟩|⟨r,b,_⟩
  ·cases b;have:=A.low k _ h1 h2 d;have:=c.1;omega
  ·cases b
 ·rcases c with⟨a',b,c⟩|⟨r,b,_⟩
  ·cases b;exact c.2.2.2.1 f
  ·cases b
 ·rcases c with⟨a',b,c⟩|⟨r',b,c⟩
  ·cases b
  ·cases b;have:=A.low k _ h1 h2 d;have:=c.1;omega
def Sep.ownSh{p:Place}{n:Nat}{J S:Nat->Nat->Prop}(A:Sep p e n J S){k:Nat}(h1:e<=k)(h2:k<n){l:Loc}(ho:vK p (J k) (S k) l)(b:dX p l):False:=by
 rcases b with⟨a,rfl,b⟩|⟨r,rfl,b⟩
 case inr=>
  have d:=b.elim (λe=>e▸p.ch) λx=>(p.ow _ (.inr x)).1
  rcases ho with⟨a',c,_⟩|⟨r',c,f⟩
  ·cases c
  ·cases c;have:=A.low k _ h1 h2 f;omega
 have d:=b.elim (λe=>e▸p.wg) λx=>(p.ow _ (.inl x)).1
 rcases ho with⟨a',c,f|⟨g,_⟩⟩|⟨r,c,f⟩
 ·cases c;have:=A.low k _ h1 h2 f;omega
 ·cases c;rcases b with b|b
  ·exact p.ga (b.symm.trans g)
  ·exact(p.ow _ (.inl b)).2.2.2 g
 ·cases c
def rdSh{p:Place}{l:Loc}(c:sS p l)(b:dX p l):False:=by
 rcases b with⟨a,rfl,b⟩|⟨r,rfl,b⟩
 ·rcases c with⟨a',d,c⟩|⟨r,d,_⟩
  ·cases d;rcases b with b|b
   ·exact c.2.1 b
   ·exact c.2.2.2.2 (.inl b)
  ·cases d
 ·rcases c with⟨a',d,c⟩|⟨r,d,c⟩
  ·cases d
  ·cases d;rcases b with b|b
   ·exact c.2.2.1 b
   ·exact c.2.2.2.2 (.inr b)
def Sep.own{p:Place}{n:Nat}{J S:Nat->Nat->Prop}(A:Sep p e n J S){k k':Nat}(h1:e<=k)(h2:k<n)(h3:e<=k')(g:k'<n){l:Loc}(ho:vK p (J k) (S k) l)(f:vK p (J k') (S k') l):k=k':=by
 rcases ho with⟨a,rfl,c⟩|⟨r,rfl,c⟩
 ·rcases f with⟨a',d,b⟩|⟨r,d,b⟩
  ·cases d;rcases c with c|⟨i,c⟩
   ·rcases b with b|⟨h,b⟩
    ·exact A.s k k' _ h1 h2 h3 g c b
    ·have:=A.low k _ h1 h2 c;have:=p.an;omega
   ·rcases b with b|⟨h,b⟩
    ·have:=A.low k' _ h3 g b;have:=p.an;omega
    ·exact A.j k k' _ h1 h2 h3 g c b
  ·cases d
 ·rcases f with⟨a',d,b⟩|⟨r',d,b⟩
  ·cases d
  ·cases d;exact A.s k k' _ h1 h2 h3 g c b
def bBi{p:Place}{K:Nat->Prop}{l:Loc}(h:vK p K T l):l.isMemory=G_:=by rcases h with⟨a,rfl,_⟩|⟨r,rfl,_⟩<;>rfl
def Od{p:Place}{l:Loc}(h:sS p l):l.isMemory=G_:=by rcases h with⟨a,rfl,_⟩|⟨r,rfl,_⟩<;>rfl
def bE8{p:Place}{l:Loc}(h:dX p l):l.isMemory=G_:=by rcases h with⟨a,rfl,_⟩|⟨r,rfl,_⟩<;>rfl
def TI.app{p:Place}{n:Nat}{J S:Nat->Nat->Prop}(A:Sep p e n J S)(h:TI p e n J S H B t){g:Nat}(T:g<n){M:Nat}(R:B<=M)(L:∀d∈u,d.g=g)(v:∀d∈u,∀x,d.act.touch? = A_ x->x.loc.isMemory=G_->JX p e n J S g x)(m:∀d∈u,d.act.low M)(U:e<=g->∀j,J g j->H j):TI p e n J S H M (t++u):=by
 refine⟨λsaid=>?_,h.quiet.app λd c x F f=>?_,λk k1 k2 l m=>(h.own k k1 k2 l m).app λd c b z eb=>?_,λk k1 k2 l m=>(h.Ev k k1 k2 l m).app λd c b z eb E=>?_,λl m=>(h.Ce l m).app λd c b z eb E=>?_,
  λd c=>(Xi.1 c).elim (λx=>MemAct.low_mono R (h.seen d x)) (m d),λi x a G F y=>?_,λi d hi=>?_⟩
 ·refine noRace_append (h.nr said) L λi a G d c b z C=>?_
  rcases v d c b z (by rw[<-C.1];exact C.2.1)with⟨q,s,ho⟩|⟨o,E,hgg⟩|⟨f,hk,D⟩
  ·exact h.own g q s _ ho i a G C.1
  ·have I:=C.2.2.1.resolve_right (by simp[E]);rcases hgg with rfl|⟨q,s⟩
   ·exact h.Ce _ o i a G C.1 I
   ·exact h.Ev g q s _ o i a G C.1 I
  ·exact h.quiet.known f hk D i a G C
 ·rcases v d c x F (bE8 f)with⟨q,s,ho⟩|⟨o,_⟩|⟨_,hk,D⟩
  ·exact(A.ownSh q s ho f).elim
  ·exact(rdSh o f).elim
  ·exact⟨hk,λe=>(L d c).trans (D e)⟩
 ·rw[L d c];rcases v d c b z (by rw[eb];exact bBi m)with⟨q,s,ho⟩|⟨o,_⟩|⟨f,_⟩
  ·exact A.own q s k1 k2 ho (eb▸m)
  ·exact(A.ownRd k1 k2 (eb▸m) o).elim
  ·exact(A.ownSh k1 k2 (eb▸m) f).elim
 ·rcases v d c b z (by rw[eb];exact Od m)with⟨q,s,ho⟩|⟨_,o,_⟩|⟨f,_⟩
  ·exact(A.ownRd q s ho (eb▸m)).elim
  ·rw[o]at E;cases E
  ·exact(rdSh (eb▸m) f).elim
 ·rcases v d c b z (by rw[eb];exact Od m)with⟨q,s,ho⟩|⟨_,o,_⟩|⟨f,_⟩
  ·exact(A.ownRd q s ho (eb▸m)).elim
  ·rw[o]at E;cases E
  ·exact(rdSh (eb▸m) f).elim
 ·obtain⟨d,ho,K⟩:=YM G;rcases TH ho with⟨hi,P⟩|⟨_,Q⟩
  ·exact h.an i x a (by rw[ZG P];exact K) F y
  ·rcases v d Q x K (by rw[F];rfl)with⟨q,s,ho⟩|⟨o,_⟩|⟨f,_⟩
   ·rw[F]at ho;rcases ho with⟨a',w,f|⟨_,f⟩⟩|⟨r,w,_⟩
    ·cases w;have:=A.low g _ q s f;have:=p.an;omega
    ·cases w;exact U q _ f
    ·cases w
   ·rw[F]at o;rcases o with⟨a',w,o⟩|⟨r,w,_⟩
    ·cases w;exact(o.2.2.2.1 y).elim
    ·cases w
   ·rw[F]at f;rcases f with⟨a',w,f⟩|⟨r,w,_⟩
    ·cases w;rcases f with f|f
     ·exact(p.ga (f.symm.trans y)).elim
     ·exact((p.ow _ (.inl f)).2.2.2 y).elim
    ·cases w
 ·rcases TH hi with⟨_,N⟩|⟨_,O⟩
  ·exact h.gs i d N
  ·rw[L d O];exact T
def TI.give{p:Place}{n:Nat}{J S:Nat->Nat->Prop}(h:TI p e n J S H B t){v S':Nat->Nat->Prop}(w:∀k b,S' k b->S k b\/B<=b)(z:∀k j,v k j->J k j\/¬H j)(y:∀j,H j->H' j):TI p e n v S' H' B t:=by
 refine⟨h.nr,h.quiet,λk k1 k2 l A=>?_,h.Ev,h.Ce,h.seen,λi x a m o s=>y _ (h.an i x a m o s),h.gs⟩;intro i x o f
 have low:∀{q:MemOp},t[i]? = A_ q->q.act.touch? = A_ x->x.loc.low B:=by
  intro q ho c;have:=h.seen q (Array.mem_of_getElem? ho);cases m:q.act with
  |access ev=>
   rw[m]at this c;simp only[VH,Sk]at c;subst c;exact this
  |mark mm=>
   rw[m]at this c;cases mm<;>simp only[VH]at c<;>first|(cases c;done)|(simp only[Sk]at c;subst c;exact this)
  |_=>rw[m]at c;cases c
 obtain⟨q,ho,c⟩:=YM o;have d:=low ho c;rcases A with⟨a,rfl,g|⟨m,g⟩⟩|⟨r,rfl,g⟩
 ·rcases w k _ g with g|u
  ·exact h.own k k1 k2 _ (.inl ⟨a,rfl,.inl g⟩) i x o f
  ·rw[f]at d;have:a.block<B:=d;omega
 ·rcases z k _ g with g|u
  ·exact h.own k k1 k2 _ (.inl ⟨a,rfl,.inr ⟨m,g⟩⟩) i x o f
  ·exact(u (h.an i x a o f m)).elim
 ·rcases w k _ g with g|u
  ·exact h.own k k1 k2 _ (.inr ⟨r,rfl,g⟩) i x o f
  ·rw[f]at d;have:r<B:=d;omega
def TI.fork{p:Place}{n:Nat}{J S:Nat->Nat->Prop}(h:TI p e n J S H B t)(hn:0<n)(L:∀j,¬J n j)(I:∀b,¬S n b)(w:x.g=0/\x.act=.go n)(A:y.g=n/\y.act=.start)(h0:Deaf t 0=0):TI p e (n+1) J S H B (t++#[x,y]):=by
 have hk:Deaf t n=0:=Deaf_absent λi d hi e=>by have:=h.gs i d hi;omega
 have m:∀d∈#[x,y],∀b,d.act.touch? = A_ b->False:=by
  intro d c b f;simp only[Ya,SB,Ud,or_false]at c;rcases c with rfl|rfl
  ·rw[w.2]at f;cases f
  ·rw[A.2]at f;cases f
 have old:∀{i:Nat} {a:Touch},W_ (t++#[x,y]) i=A_ a->W_ t i=A_ a:=by
  intro i a s;obtain⟨z,N,C⟩:=YM s;rcases TH N with⟨_,F⟩|⟨_,G⟩
  ·rw[ZG F];exact C
  ·exact(m z G a C).elim
 refine⟨λsaid=>?_,h.quiet.app λd c b f _=>(m d c b f).elim,λk k1 k2 l o=>?_,λk k1 k2 l o=>?_,λl o=>(h.Ce l o).app λd c b f _ _=>(m d c b f).elim,λd c=>?_,λi z a s=>h.an i z a (old s),λi d hi=>?_⟩
 ·have K:t++#[x,y]=(t++#[x])++#[y]:=by apply Array.ext';simp
  rw[K]
  refine noRace_append (g:=n) (noRace_append (g:=0) (h.nr said) (λd c=>by simp at c;rw[c];exact w.1) (λi a _ d c b f _=>(m d (by simp at c⊢;exact .inl c) b f).elim))
   (λd c=>by simp at c;rw[c];exact A.1) (λi a _ d c b f _=>(m d (by simp at c⊢;exact .inr c) b f).elim)
 ·rcases Us k n with q|D
  ·exact(h.own k k1 q l o).app λd c b f _=>(m d c b f).elim
  ·obtain rfl:k=n:=by omega
   rcases o with⟨a,_,v|⟨_,v⟩⟩|⟨r,_,v⟩
   ·exact(I _ v).elim
   ·exact(L _ v).elim
   ·exact(I _ v).elim
 ·rcases Us k n with q|D
  ·exact(h.Ev k k1 q l o).app λd c b f _ _=>(m d c b f).elim
  ·obtain rfl:k=n:=by omega
   exact λi a s e M=>fork_knows w A h0 hk (h.Ce l o i a (old s) e M)
 ·rcases Xi.1 c with c|c
  ·exact h.seen d c
  ·simp only[Ya,SB,Ud,or_false]at c;rcases c with rfl|rfl
   ·rw[w.2];trivial
   ·rw[A.2];trivial
 ·rcases TH hi with⟨_,E⟩|⟨_,u⟩
  ·have:=h.gs i d E;omega
  ·simp only[Ya,SB,Ud,or_false]at u;rcases u with rfl|rfl
   ·rw[w.1];omega
   ·rw[A.1];omega
end
section
open Go.Rn Go.Conc
open Go.ConcR (WgAt stA smA KK rd wr mk Payload again_blocked g_of_ofEvents loc_of_ofEvent)
def Vec(n:Nat)(v' v:Nat->Rk):Prop:=∃i,i<n/\Rk.Lt (v' i) (v i)/\∀k,k≠i->v' k=v k
def bIb:∀(n:Nat) (v:Nat->Rk),Acc (Vec n) v:=by
 intro n
 induction n with
 |zero=>exact λv=>⟨_,λ_ ⟨i,hi,_⟩=>by omega⟩
 |succ n ih=>
  have f:∀r:Rk,Acc Rk.Lt r->∀v:Nat->Rk,v n=r->Acc (Vec (n+1)) v:=by
   intro r g
   induction g with
   |intro r _ c=>
    intro v;have a:=ih v
    induction a with
    |intro v _ d=>
     intro hv;refine⟨_,λv' ⟨i,hi,hlt,hs⟩=>?_⟩
     by_cases b:i=n
     ·subst b;exact c (v' i) (by rw[<-hv];exact hlt) v' rfl
     ·exact d v' ⟨i,by omega,hlt,hs⟩ (by rw[hs n (λe=>b e.symm)];exact hv)
  exact λv=>f _ (Oj _) v rfl
structure Mu where
 a:Nat
 n:Nat
 v:Nat->Rk
 f:Nat
inductive Mu.Lt:Mu->Mu->Prop
 |a {x y:Mu}:x.a<y.a->Mu.Lt x y
 |v {x y:Mu}:x.a=y.a->x.n=y.n->Vec y.n x.v y.v->Mu.Lt x y
 |f {x y:Mu}:x.a=y.a->x.n=y.n->x.v=y.v->x.f<y.f->Mu.Lt x y
def aY6:WellFounded Mu.Lt:=by
 have c:∀(a:Nat) (n:Nat) (v:Nat->Rk) (f:Nat),Acc Mu.Lt ⟨a,n,v,f⟩:=by
  intro a
  induction a using Nat.strongRecOn with
  |ind a iha=>
   intro n v
   induction bIb n v with
   |intro v _ b=>
    intro f
    induction f using Nat.strongRecOn with
    |ind f ihf=>
     refine⟨_,λy d=>?_⟩;obtain⟨e,i,j,g⟩:=y;cases d with
     |a h=>exact iha _ h _ _ _
     |v h1 h2 h3=>
      subst h1 h2;exact b _ h3 _
     |f h1 h2 h3 h4=>
      subst h1 h2 h3;exact ihf _ h4
 exact⟨λ⟨a,n,v,f⟩=>c a n v f⟩
structure WG where
 stage:Nat
 rk:Rk
 deaf:Nat
 J:Nat->Prop
 S:Nat->Prop
end
section
open Go.Rn Go.Conc
open Go.ConcR (WgAt stA smA KK rd wr mk Payload again_blocked g_of_ofEvents loc_of_ofEvent)
variable (P:TB) (p:Place) (AtR:H_->Prop) (z:D_) (val:Nat->D_)
def Done(J:Nat->Prop)(w:C_):Prop:=∀j,J j->w.cell? ⟨p.An,j,B_⟩=A_ (val j)
def iy(J _S:Nat->Prop)(g:H_)(w:C_):Prop:=AtR g/\Done p val J w
def sW(g:H_):H_:=parked (core g) #[rcase p.Ch z] (.recv G_)
end
section
open Go.Rn Go.Conc
open Go.ConcR (WgAt stA smA KK rd wr mk Payload again_blocked g_of_ofEvents loc_of_ofEvent)
variable (P:TB) (p:Place) (AtR:H_->Prop) (z:D_) (val:Nat->D_)
variable [Payload]
def CK(J _S:Nat->Prop)(g:H_)(w:C_):Prop:=(∃C v,kW p C/\ConcN.AtR0 P p.ty p.Wg C 1 0 1 v g w)/\Done p val J w
inductive WS (d:WG):H_->C_->Prop
 |walk {g w}:d.stage=9->d.deaf=0->Tree P E_ (Rl p d.J) (DW p d.J) (iy p AtR val d.J) d.rk d.S g w->WS d g w
 |uj {g w}:d.stage=8->d.deaf=0->AtR g->Done p val d.J w->WS d (sW p z g) w
 |fin {g w}:d.stage=7->d.deaf=0->Tree P E_ (Rl p d.J) (DW p d.J) (CK P p val d.J) d.rk d.S g w->WS d g w
 |post {g w s f C v}:d.stage=s->2<=s->s<=6->d.rk=Rk.nat f->kW p C->ConcN.WSit P p.ty p.Wg C 1 (λ_ _=>False) (λ_ _=>False) 0 1 v s f d.deaf g w->Done p val d.J w->WS d g w
 |quit {g w q}:d.stage<=1->d.rk=Rk.nat q->QuitsD P q d.deaf g->(d.stage=1->Done p val d.J w)->WS d g w
end
section
open Go.Rn Go.Conc
open Go.ConcR (WgAt stA smA KK rd wr mk Payload again_blocked g_of_ofEvents loc_of_ofEvent)
variable {J S:Nat->Prop} {w₁:C_}
def Done.rely{p:Place}{val:Nat->D_}{w:C_}(h:Done p val J w)(r:Rl p J S w w₁):Done p val J w₁:=λj a=>(r.cell j a).trans (h j a)
end
section
open Go.Rn Go.Conc
open Go.ConcR (WgAt stA smA KK rd wr mk Payload again_blocked g_of_ofEvents loc_of_ofEvent)
variable {P:TB} {p:Place} {AtR:H_->Prop} {z:D_} {val:Nat->D_} {J S:Nat->Prop} {w w₁:C_} {d:WG} {g:H_}
variable [Payload]
variable {R:(Nat->Prop)->C_->C_->Prop} {Stop:(Nat->Prop)->H_->C_->Prop} {T:Nat->Prop}
def aHs{C:Nat}(a:kW p C)(r:Rl p J S w w₁):ConcN.RW p.ty p.Wg C 1 0 0 w w₁:=
 ⟨λb c=>by omega,λ_=>r.gi.wg,λ⟨cs,h1,h2⟩=>⟨cs,(r.low C a).trans h1,h2⟩,by simp only[World.cell?,r.low C a]⟩
def WS.rely(h:WS P p AtR z val d g w)(r:Rl p d.J d.S w w₁):WS P p AtR z val d g w₁:=by
 cases h with
 |walk h1 h2 h3=>exact .walk h1 h2 (h3.rely (λ_ _ _ _ a b=>a.trans b) r)
 |uj h1 h2 h3 h4=>exact .uj h1 h2 h3 (h4.rely r)
 |fin h1 h2 h3=>exact .fin h1 h2 (h3.rely (λ_ _ _ _ a b=>a.trans b) r)
 |post h1 h2 h3 h4 h5 h6 h7=>exact .post h1 h2 h3 h4 h5 (h6.rely (aHs h5 r)) (h7.rely r)
 |quit h1 h2 h3 h4=>exact .quit h1 h2 h3 λe=>(h4 e).rely r
def aJk{D:(Nat->Prop)->C_->C_->Array K_->Prop}{m:Bool}{r:Rk}(b:∀S g w,Stop S g w->g.status=.running)(a:R T w w)(h:Tree P m R D Stop r T g w):g.status=.running:=by
 cases r with
 |zero=>exact b _ _ _ (h w a)
 |nu f=>exact(h w a).elim (b _ _ _) (·.1)
def bGg(T:Nat->Prop)(g:H_)(w:C_)(h:CK P p val J T g w):g.status=.running:=by
 obtain⟨⟨C,v,_,h⟩,_⟩:=h;exact h.1
def WS.status(b:∀g,AtR g->g.status=.running)(a:GI p w)(h:WS P p AtR z val d g w):g.status=.running\/(g.status=.finished/\d.stage<=1)\/∃g0,g=sW p z g0/\AtR g0/\d.stage=8:=by
 cases h with
 |walk h1 h2 h3=>exact .inl (aJk (λ_ g _ h=>b g h.1) (.refl a) h3)
 |uj h1 h2 h3 h4=>exact .inr (.inr ⟨_,rfl,h3,h1⟩)
 |fin h1 h2 h3=>exact .inl (aJk bGg (.refl a) h3)
 |post h1 h2 h3 h4 h5 h6 h7=>
  rcases h6.status with h|h
  ·exact .inl h
  ·exfalso;generalize d.deaf=dd at h6;cases h6 with
   |quit h=>omega
   |k1 h'=>have:=UO (λ_ _ x=>x.1) w (N_ w) h';rw[h]at this;cases this
   |d1 h'=>have:=UO (λ_ _ x=>x.1) w (N_ w) h';rw[h]at this;cases this
   |d2 h'=>have:=UO (λ_ _ x=>x.1) w (N_ w) h';rw[h]at this;cases this
   |d3 h'=>have:=UO (λ_ _ x=>x.1) w (N_ w) h';rw[h]at this;cases this
   |d4 h'=>have:=UO (λ_ _ x=>x.1) w (N_ w) h';rw[h]at this;cases this
   |r0 h'=>omega
 |quit h1 h2 h3 h4=>exact h3.status.elim .inl λh=>.inr (.inl ⟨h,h1⟩)
def WS.woken(e:∀g,AtR g->g.status=.running)(f:GI p w)(h:WS P p AtR z val d g w)(a a':H_){w':C_}(b:d.stage=8->gU p E_ w'):woken P a a' w' g=g:=by
 rcases h.status e f with h1|⟨h1,_⟩|⟨i,rfl,_,c⟩
 ·unfold Conc.woken;split
  ·exact again_running _ (.inl h1)
  ·rfl
 ·unfold Conc.woken;split
  ·exact again_running _ (.inr h1)
  ·rfl
 ·obtain⟨s,r,b⟩:=b c;exact woken_recv_open a a' b
end
section
open Go.Rn hiding KK
open Go.Conc hiding served
open Go.ConcR (WgAt stA smA KK rd wr mk Payload again_blocked g_of_ofEvents loc_of_ofEvent)
variable (p:Place)
abbrev R0:C_->C_->Prop:=Rl p (λ_=>False) (λ_=>False)
structure Ev0(e:K_):Prop where
 ok:∀x,(Td e).touch? = A_ x->x.loc.isMemory=G_->sS p x.loc/\x.write=E_
 FX:e.loc≠.mark .disable
 Gd:e.loc≠.mark .enable
 rel:e.loc≠.mark (.release (stA p.Wg))
 low:(Td e).low p.Low
def D0(w w':C_)(es:Array K_):Prop:=(w'.heap=w.heap/\io w'=io w)/\∀e∈es,Ev0 p e
end
section
open Go.Rn hiding KK
open Go.Conc hiding served
open Go.ConcR (WgAt stA smA KK rd wr mk Payload again_blocked g_of_ofEvents loc_of_ofEvent)
variable (P:TB) (p:Place) (W:Nat) (aS:H_->C_->Prop) (job:Nat->D_) (Fin Anch:H_->C_->Prop)
abbrev G0(Stop:H_->C_->Prop)(n:Nat)(g:H_)(w:C_):Prop:=Conc.Goes P G_ (R0 p) (D0 p) Stop n g w
def AtAcq(g:H_)(w:C_):Prop:=g.status=.running/\∃g',stepG P G_ g w=.go g' w #[mk (.acquire (stA p.Wg))]/\Fin g' w
def AtKe(g:H_)(w:C_):Prop:=g.status=.running/\∃g',stepG P G_ g w=.go g' w #[mk .enable]/\∃n,G0 P p (AtAcq P p Fin) n g' w
def AtW4(g:H_)(w:C_):Prop:=g.status=.running/\(WgAt p.ty p.Wg w 0 0->∃g',stepG P G_ g w=.go g' w #[rd (stA p.Wg)]/\∃n,G0 P p (AtKe P p Fin) n g' w)
def AtW3(g:H_)(w:C_):Prop:=
 g.status=.running/\g.offers=B_/\((∃st,WgAt p.ty p.Wg w st 0)->stepG P G_ g w=.go { g with status:=.blocked } w #[])/\
  (WgAt p.ty p.Wg w 0 1->∃g',stepG P G_ g w=.go g' (w.setCell (smA p.Wg) (.int .u32 0)) (semEvents (smA p.Wg))/\∃n,G0 P p (AtW4 P p Fin) n g' (w.setCell (smA p.Wg) (.int .u32 0)))
def PV(g:H_)(w:C_):Prop:=g.status=.running/\∃g',stepG P G_ g w=.go g' w #[mk (.write (smA p.Wg))]/\∃n,G0 P p (AtW3 P p Fin) n g' w
def AtW2(vs:Nat)(g:H_)(w:C_):Prop:=
 g.status=.running/\∀v:Nat,v<2147483648->WgAt p.ty p.Wg w (v*KK) 0->
  (v=vs->∃g',stepG P G_ g w=.go g' (w.setCell (stA p.Wg) (.int .u64 (v*KK+1))) #[rd (stA p.Wg),wr (stA p.Wg)]/\∃n,G0 P p (PV P p Fin) n g' (w.setCell (stA p.Wg) (.int .u64 (v*KK+1))))/\
  (v≠vs->∃g',stepG P G_ g w=.go g' w #[rd (stA p.Wg)]/\∃n,G0 P p Anch n g' w)
def AtW1(g:H_)(w:C_):Prop:=
 g.status=.running/\∀v:Nat,v<2147483648->WgAt p.ty p.Wg w (v*KK) 0->∃g',stepG P G_ g w=.go g' w #[rd (stA p.Wg)]/\
  (v=0->∃n,G0 P p (AtKe P p Fin) n g' w)/\(v≠0->∃n,G0 P p (AtW2 P p Fin Anch v) n g' w)
def AtKd(g:H_)(w:C_):Prop:=g.status=.running/\∃g',stepG P G_ g w=.go g' w #[mk .disable]/\∃n,G0 P p Anch n g' w
def Cw(g:H_)(w:C_):Prop:=
 g.status=.running/\mayWake P g=G_/\∀s r,w.heap[p.Ch]? = A_ (.chan 0 #[] E_ s r E_)->
  ∃g' es,stepG P G_ g w=.go g' (w.setChan p.Ch 0 #[] G_ s r E_) es/\(∀e∈es,∃b,e=⟨.obj p.Ch,b,G_⟩)/\g'.status=.running/\∃n,G0 P p (AtKd P p Anch) n g' (w.setChan p.Ch 0 #[] G_ s r E_)
def Az(j:Nat)(Next:H_->C_->Prop)(g:H_)(w:C_):Prop:=
 g.status=.running/\∃z,stepG P G_ g w=.comm (core g) #[scase p.Ch (job j) z] G_ .send w #[]/\∀w₂,R0 p w w₂->Next (Wy (core g) undef) w₂
def vL:Nat->H_->C_->Prop
 |0,g,w=>∃n,G0 P p (Cw P p Anch) n g w
 |r+1,g,w=>∃n,G0 P p (Az P p job (p.m - (r+1)) (vL r)) n g w
def AtGo(Next:H_->C_->Prop)(g:H_)(w:C_):Prop:=
 g.status=.running/\∃g' child,stepG P G_ g w=.spawn g' child w #[]/\aS child w/\Next g' w
def AtKeS(Next:H_->C_->Prop)(g:H_)(w:C_):Prop:=g.status=.running/\∃g',stepG P G_ g w=.go g' w #[mk .enable]/\∃n,G0 P p (AtGo P aS Next) n g' w
def PU(Next:H_->C_->Prop)(g:H_)(w:C_):Prop:=g.status=.running/\∃g',stepG P G_ g w=.go g' w #[mk (.read (smA p.Wg))]/\∃n,G0 P p (AtKeS P p aS Next) n g' w
def AtA1(j:Nat)(Next:H_->C_->Prop)(g:H_)(w:C_):Prop:=
 g.status=.running/\(WgAt p.ty p.Wg w (j*KK) 0->
  ∃g',stepG P G_ g w=.go g' (w.setCell (stA p.Wg) (.int .u64 ((j+1:Nat)*KK))) #[rd (stA p.Wg),wr (stA p.Wg)]/\
   ((∃n,G0 P p (AtKeS P p aS Next) n g' (w.setCell (stA p.Wg) (.int .u64 ((j+1:Nat)*KK))))\/(∃n,G0 P p (PU P p aS Next) n g' (w.setCell (stA p.Wg) (.int .u64 ((j+1:Nat)*KK))))))
def AtKdS(j:Nat)(Next:H_->C_->Prop)(g:H_)(w:C_):Prop:=g.status=.running/\∃g',stepG P G_ g w=.go g' w #[mk .disable]/\∃n,G0 P p (AtA1 P p aS j Next) n g' w
def Sp:Nat->H_->C_->Prop
 |0,g,w=>vL P p job Anch p.m g w
 |r+1,g,w=>∃n,G0 P p (AtKdS P p aS (W - (r+1)) (Sp r)) n g w
inductive Tag where
 |nQ (r:Nat)|a1 (r:Nat)|qX (r:Nat)|qm (r:Nat)|go (r:Nat)|snd (r:Nat)|gY (r:Nat)|kd|anch|w1|w2 (vs:Nat)|wm|w3|blk|w4|ke|acq
inductive CS:Tag->Nat->Nat->H_->C_->Prop
 |nQ {r n g w}:r<W->G0 P p (AtKdS P p aS (W - (r+1)) (Sp P p W aS job Anch r)) n g w->CS (.nQ r) n 0 g w
 |a1 {r n g w}:r<W->G0 P p (AtA1 P p aS (W - (r+1)) (Sp P p W aS job Anch r)) n g w->CS (.a1 r) n 1 g w
 |qX {r n g w}:r<W->G0 P p (PU P p aS (Sp P p W aS job Anch r)) n g w->CS (.qX r) n 1 g w
 |qm {r n g w}:r<W->G0 P p (AtKeS P p aS (Sp P p W aS job Anch r)) n g w->CS (.qm r) n 1 g w
 |go {r n g w}:r<W->G0 P p (AtGo P aS (Sp P p W aS job Anch r)) n g w->CS (.go r) n 0 g w
 |cls {n g w}:G0 P p (Cw P p Anch) n g w->CS (.snd 0) n 0 g w
 |snd {r n g w}:r<p.m->G0 P p (Az P p job (p.m - (r+1)) (vL P p job Anch r)) n g w->CS (.snd (r+1)) n 0 g w
 |gY {r g w z}:r<p.m->(∀w₂,R0 p w w₂->vL P p job Anch r (Wy (core g) undef) w₂)->CS (.gY (r+1)) 0 0 (parked (core g) #[scase p.Ch (job (p.m - (r+1))) z] .send) w
 |kd {n g w}:G0 P p (AtKd P p Anch) n g w->CS .kd n 0 g w
 |anch {n g w}:G0 P p Anch n g w->CS .anch n 1 g w
 |w1 {n g w}:G0 P p (AtW1 P p Fin Anch) n g w->CS .w1 n 1 g w
 |w2 {vs n g w}:G0 P p (AtW2 P p Fin Anch vs) n g w->CS (.w2 vs) n 1 g w
 |wm {n g w}:G0 P p (PV P p Fin) n g w->CS .wm n 1 g w
 |w3 {n g w}:G0 P p (AtW3 P p Fin) n g w->CS .w3 (n+1) 1 g w
 |blk {g w}:(∀w₁,R0 p w w₁->AtW3 P p Fin g w₁)->CS .blk 0 1 { g with status:=.blocked } w
 |w4 {n g w}:G0 P p (AtW4 P p Fin) n g w->CS .w4 n 1 g w
 |ke {n g w}:G0 P p (AtKe P p Fin) n g w->CS .ke n 1 g w
 |acq {n g w}:G0 P p (AtAcq P p Fin) n g w->CS .acq n 0 g w
end
section
open Go.Rn hiding KK
open Go.Conc hiding served
open Go.ConcR (WgAt stA smA KK rd wr mk Payload again_blocked g_of_ofEvents loc_of_ofEvent)
variable {p:Place} {P:TB} {W:Nat} {aS:H_->C_->Prop} {job:Nat->D_} {Fin Anch:H_->C_->Prop} {tag:Tag} {f d:Nat} {g:H_} {w w₁:C_}
def nZ(a b c:C_)(h:R0 p a b)(k:R0 p b c):R0 p a c:=h.trans k
def CS.rely(h:CS P p W aS job Fin Anch tag f d g w)(r:R0 p w w₁):CS P p W aS job Fin Anch tag f d g w₁:=by
 cases h with
 |nQ a h=>exact .nQ a (h.rely nZ r)
 |a1 a h=>exact .a1 a (h.rely nZ r)
 |qX a h=>exact .qX a (h.rely nZ r)
 |qm a h=>exact .qm a (h.rely nZ r)
 |go a h=>exact .go a (h.rely nZ r)
 |cls h=>exact .cls (h.rely nZ r)
 |snd a h=>exact .snd a (h.rely nZ r)
 |gY a h=>exact .gY a λb k=>h b (r.trans k)
 |kd h=>exact .kd (h.rely nZ r)
 |anch h=>exact .anch (h.rely nZ r)
 |w1 h=>exact .w1 (h.rely nZ r)
 |w2 h=>exact .w2 (h.rely nZ r)
 |wm h=>exact .wm (h.rely nZ r)
 |w3 h=>exact .w3 (h.rely nZ r)
 |blk h=>exact .blk λb k=>h b (r.trans k)
 |w4 h=>exact .w4 (h.rely nZ r)
 |ke h=>exact .ke (h.rely nZ r)
 |acq h=>exact .acq (h.rely nZ r)
def waits:Tag->Prop
 | .gY _| .blk=>True
 |_=>False
def CS.running(e:∀g w,Anch g w->g.status=.running)(b:GI p w)(h:CS P p W aS job Fin Anch tag f d g w)(c:¬waits tag):g.status=.running:=by
 cases h with
 |nQ a h=>exact UO (λ_ _ x=>x.1) w (.refl b) h
 |a1 a h=>exact UO (λ_ _ x=>x.1) w (.refl b) h
 |qX a h=>exact UO (λ_ _ x=>x.1) w (.refl b) h
 |qm a h=>exact UO (λ_ _ x=>x.1) w (.refl b) h
 |go a h=>exact UO (λ_ _ x=>x.1) w (.refl b) h
 |cls h=>exact UO (λ_ _ x=>x.1) w (.refl b) h
 |snd a h=>exact UO (λ_ _ x=>x.1) w (.refl b) h
 |gY a h=>exact(c trivial).elim
 |kd h=>exact UO (λ_ _ x=>x.1) w (.refl b) h
 |anch h=>exact UO e w (.refl b) h
 |w1 h=>exact UO (λ_ _ x=>x.1) w (.refl b) h
 |w2 h=>exact UO (λ_ _ x=>x.1) w (.refl b) h
 |wm h=>exact UO (λ_ _ x=>x.1) w (.refl b) h
 |w3 h=>exact UO (λ_ _ x=>x.1) w (.refl b) h
 |blk h=>exact(c trivial).elim
 |w4 h=>exact UO (λ_ _ x=>x.1) w (.refl b) h
 |ke h=>exact UO (λ_ _ x=>x.1) w (.refl b) h
 |acq h=>exact UO (λ_ _ x=>x.1) w (.refl b) h
end
section
open Go.Rn hiding KK
open Go.Conc hiding served
open Go.ConcR (WgAt stA smA KK rd wr mk Payload again_blocked g_of_ofEvents loc_of_ofEvent)
open Go.ConcN (PermW fork_knows Deaf_absent RelBy RelBy.appNot Deaf_still upd upd_same upd_ne sumTo sumTo_upd sumTo_congr)
def Js(D:Nat->WG)(k:Nat):Nat->Prop:=(D k).J
def Ss(D:Nat->WG)(k:Nat):Nat->Prop:=(D k).S
end
section
open Go.Rn hiding KK
open Go.Conc hiding served
open Go.ConcR (WgAt stA smA KK rd wr mk Payload again_blocked g_of_ofEvents loc_of_ofEvent)
open Go.ConcN (PermW fork_knows Deaf_absent RelBy RelBy.appNot Deaf_still upd upd_same upd_ne sumTo sumTo_upd sumTo_congr)
variable (p:Place)
def oL(t:Trace)(k:Nat):Prop:=∃r,RelBy (stA p.Wg) t k r/\∀i x,r<i->t.g? i=A_ k->W_ t i=A_ x->x.loc.isMemory=G_->dX p x.loc
structure Tr(e n:Nat)(D:Nat->WG)(d0:Nat)(H:Nat->Prop)(B:Nat)(t:Trace):Prop where
 ti:TI p e n (Js D) (Ss D) H B t
 norel:NoRelease (stA p.Wg) t
 deaf0:Deaf t 0=d0
 deafW:∀k,0<k->k<n->Deaf t k=(D k).deaf
 rel:∀k,e<=k->k<n->(D k).stage<=6->oL p t k
 kn:∀i a g,W_ t i=A_ a->a.loc.isMemory=G_->t.g? i=A_ g->Knows t 0 i\/(dX p a.loc/\a.kind=.atomic)\/(e<=g/\g<n)
 ho:∀i g,t.g? i=A_ g->g≠0->t.counts i->(∃j,t.g? j=A_ 0/\HappensBefore t i j)\/(e<=g/\g<n)
end
section
open Go.Rn hiding KK
open Go.Conc hiding served
open Go.ConcR (WgAt stA smA KK rd wr mk Payload again_blocked g_of_ofEvents loc_of_ofEvent)
open Go.ConcN (PermW fork_knows Deaf_absent RelBy RelBy.appNot Deaf_still upd upd_same upd_ne sumTo sumTo_upd sumTo_congr)
variable {p:Place} {t u:Trace} {D':Nat->WG} {e n B d0 d0':Nat} {H:Nat->Prop} {B':Nat} {H':Nat->Prop} {x y:MemOp}
def oL.other{k:Nat}(h:oL p t k)(j:∀a∈u,a.g≠k):oL p (t++u) k:=by
 obtain⟨r,h1,h2⟩:=h;refine⟨r,h1.appNot j,λi x hi f m l=>?_⟩;obtain⟨a,ho,e⟩:=YM m;rcases TH ho with⟨b,c⟩|⟨_,d⟩
 ·exact h2 i x hi (by rw[<-g?_old b];exact f) (by rw[ZG c];exact e) l
 ·have:a.g=k:=by simpa[Trace.g?,ho]using f
  exact absurd this (j a d)
def oL.none{k:Nat}(h:oL p t k)(j:∀d∈u,d.act.touch? = .none):oL p (t++u) k:=by
 obtain⟨r,h1,h2⟩:=h;refine⟨r,h1.app λi hi g l=>?_,λi x hi g f m=>?_⟩
 ·obtain⟨x,f,_⟩:=l;obtain⟨d,ho,a⟩:=YM f;rcases TH ho with⟨c,_⟩|⟨_,b⟩
  ·omega
  ·rw[j d b]at a;cases a
 ·obtain⟨d,ho,a⟩:=YM f;rcases TH ho with⟨c,e⟩|⟨_,b⟩
  ·exact h2 i x hi (by rw[<-g?_old c];exact g) (by rw[ZG e];exact a) m
  ·rw[j d b]at a;cases a
def GZ{D:Nat->WG}(h:∀k,(D' k).J=(D k).J):Js D'=Js D:=funext h
def Jj{D:Nat->WG}(h:∀k,(D' k).S=(D k).S):Ss D'=Ss D:=funext h
def Mr{g:Nat}(hk:∀i a g,W_ t i=A_ a->a.loc.isMemory=G_->t.g? i=A_ g->Knows t 0 i\/(dX p a.loc/\a.kind=.atomic)\/(e<=g/\g<n))(D:∀i g,t.g? i=A_ g->g≠0->t.counts i->(∃j,t.g? j=A_ 0/\HappensBefore t i j)\/(e<=g/\g<n))(C:g<n)(F:∀c∈u,c.g=g\/c.act.touch? = .none)(r:0<g->g<e->∀c∈u,c.act.touch? = .none):
  (∀i a g,W_ (t++u) i=A_ a->a.loc.isMemory=G_->(t++u).g? i=A_ g->Knows (t++u) 0 i\/(dX p a.loc/\a.kind=.atomic)\/(e<=g/\g<n))/\
  (∀i g,(t++u).g? i=A_ g->g≠0->(t++u).counts i->(∃j,(t++u).g? j=A_ 0/\HappensBefore (t++u) i j)\/(e<=g/\g<n)):=by
 have new:∀{i:Nat} {c:MemOp} {x:Touch},(t++u)[i]? = A_ c->c∈u->c.act.touch? = A_ x->c.g=g/\(g=0\/(e<=g/\g<n)):=by
  intro i c x _ d b;have s:=(F c d).elim id λh=>by rw[h]at b;cases b
  refine⟨s,?_⟩;rcases Vu g with h|h
  ·exact .inl h
  ·rcases Us g e with h2|h2
   ·rw[r h h2 c d]at b;cases b
   ·exact .inr ⟨h2,C⟩
 refine⟨λi a k A E f=>?_,λi k f o B=>?_⟩
 ·obtain⟨c,ho,b⟩:=YM A;rcases TH ho with⟨m,q⟩|⟨_,d⟩
  ·exact(hk i a k (by rw[ZG q];exact b) E (by rw[<-g?_old m];exact f)).imp (·.app u) id
  ·obtain⟨h1,h2⟩:=new ho d b;have l:c.g=k:=by simpa[Trace.g?,ho]using f
   rcases h2 with h2|h2
   ·have:=knows_own ho;rw[h1,h2]at this;exact .inl this
   ·exact .inr (.inr (by rw[<-l,h1];exact h2))
 ·obtain⟨x,y,w⟩:=B;obtain⟨c,ho,b⟩:=YM y;rcases TH ho with⟨m,q⟩|⟨_,d⟩
  ·rcases D i k (by rw[<-g?_old m];exact f) o ((counts_old m).1 ⟨x,y,w⟩)with⟨j,hj,hb⟩|h
   ·have v:j<t.size:=by
     obtain⟨z,G,_⟩:=Option.map_eq_some_iff.1 hj;exact lt_size_of_getElem? G
    exact .inl ⟨j,by rw[g?_old v];exact hj,hb_app u hb⟩
   ·exact .inr h
  ·obtain⟨h1,h2⟩:=new ho d b;have l:c.g=k:=by simpa[Trace.g?,ho]using f
   rcases h2 with h2|h2
   ·exact absurd (l.symm.trans (h1.trans h2)) o
   ·exact .inr (by rw[<-l,h1];exact h2)
def Tr.app{D:Nat->WG}(A:Sep p e n (Js D) (Ss D))(h:Tr p e n D d0 H B t){g:Nat}(v:g<n)(w:B<=B')(s:∀d∈u,d.g=g)(q:∀d∈u,∀x,d.act.touch? = A_ x->x.loc.isMemory=G_->JX p e n (Js D) (Ss D) g x)(i:0<g->g<e->∀d∈u,d.act.touch? = .none)(E:∀d∈u,d.act.low B')(C:e<=g->∀j,(D g).J j->H j)(o:∀d∈u,d.act≠.mark (.release (stA p.Wg)))(y:∀k,(D' k).J=(D k).J)(z:∀k,(D' k).S=(D k).S)(l:Deaf (t++u) 0=d0')(m:∀k,0<k->k<n->Deaf (t++u) k=(D' k).deaf)(r:∀k,k≠g->(D' k).stage<=6->(D k).stage<=6)(hrel:e<=g->(D' g).stage<=6->oL p (t++u) g):Tr p e n D' d0' H B' (t++u):=by
 obtain⟨k1,k2⟩:=Mr h.kn h.ho v (λd f=>.inl (s d f)) i;refine⟨?_,h.norel.app o,l,m,λk a b c=>?_,k1,k2⟩
 ·rw[GZ y,Jj z];exact h.ti.app A v w s q E C
 ·by_cases hk:k=g
  ·subst hk;exact hrel a c
  ·exact(h.rel k a b (r k hk c)).other λd f=>by rw[s d f];exact λe=>hk e.symm
def TI.none{J S:Nat->Nat->Prop}(h:TI p e n J S H B t)(D:B<=B')(F:∀c∈u,c.g<n)(C:∀c∈u,c.act.touch? = .none)(f:∀c∈u,c.act.low B'):TI p e n J S H B' (t++u):=by
 have old:∀{i:Nat} {a:Touch},W_ (t++u) i=A_ a->W_ t i=A_ a:=by
  intro i a q;obtain⟨c,ho,m⟩:=YM q;rcases TH ho with⟨_,z⟩|⟨_,A⟩
  ·rw[ZG z];exact m
  ·rw[C c A]at m;cases m
 have s:∀c∈u,∀b,c.act.touch? = A_ b->False:=λc d b o=>by rw[C c d]at o;cases o
 refine⟨λsaid=>?_,h.quiet.app λc d b o _=>(s c d b o).elim,λk a b l f=>(h.own k a b l f).app λc d x r _=>(s c d x r).elim,λk a b l f=>(h.Ev k a b l f).app λc d x r _ _=>(s c d x r).elim,
  λl f=>(h.Ce l f).app λc d x r _ _=>(s c d x r).elim,λc d=>(Xi.1 d).elim (λx=>MemAct.low_mono D (h.seen c x)) (f c),λi x a q=>h.an i x a (old q),λi c hi=>?_⟩
 ·rintro⟨i,j,w,⟨a,b,q,o,E⟩,I,K⟩;have G:=old o;have hi:=old q;exact h.nr said ⟨i,j,w,⟨a,b,hi,G,E⟩,λe=>I (hb_app u e),λe=>K (hb_app u e)⟩
 ·rcases TH hi with⟨_,v⟩|⟨_,y⟩
  ·exact h.gs i c v
  ·exact F c y
def Tr.none{D:Nat->WG}(h:Tr p e n D d0 H B t)(hn:0<n)(q:B<=B')(w:∀d∈u,d.g<n)(l:∀d∈u,d.act.touch? = .none)(x:∀d∈u,d.act.low B')(i:∀d∈u,∀m,d.act≠.mark m)(r:∀k,(D' k).J=(D k).J)(s:∀k,(D' k).S=(D k).S)(v:∀k,0<k->k<n->(D' k).deaf=(D k).deaf)(j:∀k,(D' k).stage<=6->(D k).stage<=6):Tr p e n D' d0 H B' (t++u):=by
 obtain⟨k1,k2⟩:=Mr h.kn h.ho hn (λd f=>.inr (l d f)) (λh=>by omega);have o:∀k,Deaf (t++u) k=Deaf t k:=λk=>Deaf_still t k u λd f=>⟨i d f _,i d f _⟩
 refine⟨?_,h.norel.app λd f=>i d f _,(o 0).trans h.deaf0,λk a b=>(o k).trans ((h.deafW k a b).trans (v k a b).symm),λk a b c=>(h.rel k a b (j k c)).none l,k1,k2⟩;rw[GZ r,Jj s];exact h.ti.none q w l x
def Tr.give{D:Nat->WG}(h:Tr p e n D d0 H B t)(i:∀k b,(D' k).S b->(D k).S b\/B<=b)(g:∀k j,(D' k).J j->(D k).J j\/¬H j)(f:∀j,H j->H' j)(l:∀k,0<k->k<n->(D' k).deaf=(D k).deaf)(d:∀k,(D' k).stage<=6->(D k).stage<=6):Tr p e n D' d0 H' B t:=
 ⟨h.ti.give i g f,h.norel,h.deaf0,λk a b=>(h.deafW k a b).trans (l k a b).symm,λk a b c=>h.rel k a b (d k c),h.kn,h.ho⟩
def Tr.fork{D:Nat->WG}(h:Tr p e n D 0 H B t)(M:0<e)(K:e<=n)(C:∀j,¬(D n).J j)(E:∀b,¬(D n).S b)(I:(D n).deaf=0)(N:6<(D n).stage)(w:x.g=0/\x.act=.go n)(z:y.g=n/\y.act=.start):Tr p e (n+1) D 0 H B (t++#[x,y]):=by
 have r:∀f∈#[x,y],f.act.touch? = .none:=by
  intro f d;simp only[Ya,SB,Ud,or_false]at d;rcases d with rfl|rfl
  ·rw[w.2];rfl
  ·rw[z.2];rfl
 have o:∀f∈#[x,y],∀m,f.act≠.mark m:=by
  intro f d m;simp only[Ya,SB,Ud,or_false]at d;rcases d with rfl|rfl
  ·rw[w.2];exact λh=>by cases h
  ·rw[z.2];exact λh=>by cases h
 obtain⟨k1,k2⟩:=Mr (g:=0) h.kn h.ho o7 (λf d=>.inr (r f d)) (λh=>by omega);have A:∀k,Deaf (t++#[x,y]) k=Deaf t k:=λk=>Deaf_still t k _ λf d=>⟨o f d _,o f d _⟩
 have q:Deaf t n=0:=ConcN.Deaf_absent λi f hi e=>by have:=h.ti.gs i f hi;omega
 refine⟨h.ti.fork o7 C E w z h.deaf0,h.norel.app λf d=>o f d _,(A 0).trans h.deaf0,λk a b=>?_,λk a b c=>?_,λi a g F L s=>(k1 i a g F L s).imp id (·.imp id λh=>⟨h.1,by omega⟩),λi g s v G=>(k2 i g s v G).imp id λh=>⟨h.1,by omega⟩⟩
 ·rw[A];rcases Us k n with l|u
  ·exact h.deafW k a l
  ·obtain rfl:k=n:=by omega
   rw[q,I]
 ·rcases Us k n with l|u
  ·exact(h.rel k a l c).none r
  ·obtain rfl:k=n:=by omega
   omega
def cnt(d:WG):Nat:=if 5<=d.stage then 1 else 0
def Vc(n:Nat)(D:Nat->WG):Nat:=sumTo n λk=>cnt (D k)
def Sm(n:Nat)(D:Nat->WG):Nat:=sumTo n λk=>(D k).stage
def phi(W m v:Nat):Tag->Nat
 | .acq=>3| .ke=>4| .w4=>5| .blk=>6| .w3=>6| .wm=>7
 | .w2 vs=>8*vs+4| .w1=>8*v+5| .anch=>8*v+6| .kd=>8*W+9
 | .gY r=>9*W+12+20*r| .snd r=>9*W+13+20*r
 | .go r=>9*W+25+20*m+40*r| .qm r=>9*W+26+20*m+40*r| .qX r=>9*W+27+20*m+40*r| .a1 r=>9*W+28+20*m+40*r| .nQ r=>9*W+29+20*m+40*r
def phi_mono(W m:Nat){v v':Nat}(h:v'<=v)(tag:Tag):phi W m v' tag<=phi W m v tag:=by cases tag<;>simp only[phi]<;>omega
def left(m:Nat):Tag->Nat
 | .nQ _| .a1 _| .qX _| .qm _| .go _=>m
 | .snd r| .gY r=>r
 |_=>0
def Hd(m:Nat)(tag:Tag)(j:Nat):Prop:=j<m - left m tag
end
section
open Go.Rn hiding KK
open Go.Conc hiding served
open Go.ConcR (WgAt stA smA KK rd wr mk Payload again_blocked g_of_ofEvents loc_of_ofEvent)
open Go.ConcN (PermW fork_knows Deaf_absent RelBy RelBy.appNot Deaf_still upd upd_same upd_ne sumTo sumTo_upd sumTo_congr)
variable (e n W:Nat) (D:Nat->WG)
def sQ:Prop:=∀k,e<=k->k<n->(D k).stage=9\/(D k).stage=8
def AO:Prop:=∀k,e<=k->k<n->(D k).stage=9
def Shut:Prop:=∀k,e<=k->k<n->(D k).stage=9\/(D k).stage=7\/(D k).stage=6\/(D k).stage=5\/(D k).stage=1
def Quit:Prop:=∀k,e<=k->k<n->(D k).stage=1
inductive jm:Bool->Int->Int->Prop
 |reg {b}:Shut e n D->1<=Vc n D->jm b ((Vc n D:Nat)*KK+1) 0
 |last {b} (l:Nat):e<=l->l<n->((D l).stage=4\/(D l).stage=3\/(D l).stage=2)->(∀k,e<=k->k<n->k≠l->(D k).stage=1)->jm b (if(D l).stage=2 then 0 else 1) 0
 |sema:Quit e n D->jm G_ 0 1
def Mode:Tag->Int->Int->Bool->Prop
 | .nQ r,st,sm,cl| .a1 r,st,sm,cl=>cl=E_/\sm=0/\sQ e n D/\n+(r+1)=W+e/\st=((n - e:Nat):Int)*KK
 | .qX r,st,sm,cl| .qm r,st,sm,cl| .go r,st,sm,cl=>cl=E_/\sm=0/\sQ e n D/\n+(r+1)=W+e/\st=((n - e+1:Nat):Int)*KK
 | .snd _,st,sm,cl=>cl=E_/\sm=0/\sQ e n D/\n=W+e/\st=(W:Int)*KK
 | .gY _,st,sm,cl=>cl=E_/\sm=0/\AO e n D/\n=W+e/\st=(W:Int)*KK
 | .kd,st,sm,cl| .anch,st,sm,cl| .w1,st,sm,cl=>cl=G_/\sm=0/\Shut e n D/\n=W+e/\st=(Vc n D:Nat)*KK
 | .w2 vs,st,sm,cl=>cl=G_/\sm=0/\Shut e n D/\n=W+e/\st=(Vc n D:Nat)*KK/\Vc n D<=vs/\1<=vs
 | .wm,st,sm,cl| .w3,st,sm,cl=>cl=G_/\n=W+e/\jm e n D G_ st sm
 | .blk,st,sm,cl=>cl=G_/\n=W+e/\jm e n D E_ st sm
 | .w4,st,sm,cl| .ke,st,sm,cl| .acq,st,sm,cl=>cl=G_/\sm=0/\Quit e n D/\n=W+e/\st=0
end
section
open Go.Rn hiding KK
open Go.Conc hiding served
open Go.ConcR (WgAt stA smA KK rd wr mk Payload again_blocked g_of_ofEvents loc_of_ofEvent)
open Go.ConcN (PermW fork_knows Deaf_absent RelBy RelBy.appNot Deaf_still upd upd_same upd_ne sumTo sumTo_upd sumTo_congr)
variable (P:TB) (p:Place) (AtR:H_->Prop) (z:D_) (val:Nat->D_) [Payload]
structure Wo(e n:Nat)(gs:Array H_)(w:C_)(D:Nat->WG)(H:Nat->Prop):Prop where
 size:gs.size=n
 gi:GI p w
 wk:∀k,0<k->k<n->∃g,gs[k]? = A_ g/\WS P p AtR z val (D k) g w
 main:(D 0).stage=0
 old:∀k,0<k->k<e->(D k).stage=0
 new:∀k,e<=k->k<n->1<=(D k).stage
 sep:Sep p e n (Js D) (Ss D)
 sB:∀k b,e<=k->k<n->(D k).S b->b<w.heap.size
 jH:∀k j,e<=k->k<n->(D k).J j->H j
 zD:∀j,H j->∃k,e<=k/\k<n/\(D k).J j
end
section
open Go.Rn hiding KK
open Go.Conc hiding served
open Go.ConcR (WgAt stA smA KK rd wr mk Payload again_blocked g_of_ofEvents loc_of_ofEvent)
open Go.ConcN (PermW fork_knows Deaf_absent RelBy RelBy.appNot Deaf_still upd upd_same upd_ne sumTo sumTo_upd sumTo_congr)
variable (P:TB) (p:Place) (AtR:H_->Prop) (z:D_) (val:Nat->D_) [Payload]
variable (W:Nat) (aS:H_->C_->Prop) (job:Nat->D_) (Fin Anch:H_->C_->Prop)
def Inv(e:Nat)(μ:Mu)(mc:Machine)(t:Trace):Prop:=
 ∃(gs:Array H_) (w:C_) (sl:Option (Nat×Nat)) (n:Nat) (D:Nat->WG) (tag:Tag) (f d0:Nat) (a:H_) (st sm:Int) (cl:Bool),
  mc=crowd gs w sl/\gs[0]? = A_ a/\CS P p W aS job Fin Anch tag f d0 a w/\Wo P p AtR z val e n gs w D (Hd p.m tag)/\Tr p e n D d0 (Hd p.m tag) w.heap.size t/\
   WgAt p.ty p.Wg w st sm/\gU p cl w/\Mode e n W D tag st sm cl/\μ=⟨phi W p.m (Vc n D) tag+Sm n D,n,λk=>(D k).rk,f⟩
end
section
open Go.Rn hiding KK
open Go.Conc hiding served
open Go.ConcR (WgAt stA smA KK rd wr mk Payload again_blocked g_of_ofEvents loc_of_ofEvent)
open Go.ConcN (PermW fork_knows Deaf_absent RelBy RelBy.appNot Deaf_still upd upd_same upd_ne sumTo sumTo_upd sumTo_congr)
variable {P:TB} {p:Place} {AtR:H_->Prop} {z:D_} {val:Nat->D_} [Payload] {e n W:Nat} {gs:Array H_} {w w':C_} {D:Nat->WG} {H:Nat->Prop} {aS:H_->C_->Prop} {job:Nat->D_} {Fin Anch:H_->C_->Prop}
variable {g:H_} {i:Nat} {g':H_} {tag:Tag} {f d0:Nat} {sl:Option (Nat×Nat)} {a:H_} {t:Trace} {tag':Tag} {es:Array K_} {d':WG} {cl:Bool}
def PL{d:WG}(h0:d.stage=0)(h:WS P p AtR z val d g w):WS P p AtR z val d g w':=by
 cases h with
 |walk h1=>omega
 |uj h1=>omega
 |fin h1=>omega
 |post h1 h2=>omega
 |quit h1 h2 h3 h4=>exact .quit h1 h2 h3 λe=>by omega
def Wo.others(h:Wo P p AtR z val e n gs w D H)(d:∀g,AtR g->g.status=.running)(l:∀k,e<=k->k<n->k≠i->Rl p (D k).J (D k).S w w')(j:∀k,e<=k->k<n->k≠i->(D k).stage=8->gU p E_ w'):
  ∀k,0<k->k<n->k≠i->∃x,((gs.map (woken P g g' w')).setIfInBounds i g')[k]? = A_ x/\WS P p AtR z val (D k) x w':=by
 intro k f kn c;obtain⟨x,m,b⟩:=h.wk k f kn
 have a:((gs.map (woken P g g' w')).setIfInBounds i g')[k]? = A_ (woken P g g' w' x):=by
  rw[Sg (λe=>c e.symm),VL,m];rfl
 rcases Us k e with hk|hk
 ·have h0:=h.old k f hk;rw[b.woken d h.gi g g' (λo=>by omega)]at a;exact⟨x,a,PL h0 b⟩
 ·rw[b.woken d h.gi g g' (j k hk kn c)]at a;exact⟨x,a,b.rely (l k hk kn c)⟩
def CS.wokenBy{a:H_}(d:∀g w,Anch g w->g.status=.running)(n:GI p w)(h:CS P p W aS job Fin Anch tag f d0 a w)(l:R0 p w w')(g g':H_)(i:∀r,tag=.gY r->gU p E_ w'):
  ∃tag' f',CS P p W aS job Fin Anch tag' f' d0 (woken P g g' w' a) w'/\(tag'=tag\/(tag=.blk/\tag'=.w3))/\(mayWake P g=G_->g'.status=.running->tag'≠.blk):=by
 have c:=h.rely l
 by_cases m:waits tag
 ·cases h with
  |gY hm hp=>
   obtain⟨s,r,j⟩:=i _ rfl;exact⟨_,_,by rw[woken_send_open g g' j];exact c,.inl rfl,λ_ _=>by simp⟩
  |blk hb=>
   unfold Conc.woken;split
   ·have h3:=hb w' l;exact⟨.w3,0+1,by rw[again_blocked h3.1 h3.2.1];exact .w3 (Goes.stop λo k=>hb o (l.trans k)),.inr ⟨rfl,rfl⟩,λ_ _=>by simp⟩
   ·rename_i i;exact⟨_,_,c,.inl rfl,λh1 h2=>absurd (by simp[h1,h2]) i⟩
  |_=>exact m.elim
 ·have b:=h.running d n m
  have e1:Conc.woken P g g' w' a=a:=by
   unfold Conc.woken;split
   ·exact again_running _ (.inl b)
   ·rfl
  exact⟨tag,f,by rw[e1];exact c,.inl rfl,λ_ _ e=>m (by rw[e];trivial)⟩
def phi_retag(W m v:Nat){tag:Tag}(h:tag'=tag\/(tag=.blk/\tag'=.w3)):phi W m v tag'=phi W m v tag:=by rcases h with rfl|⟨rfl,rfl⟩<;>rfl
def Ma(m:Nat){tag:Tag}(h:tag'=tag\/(tag=.blk/\tag'=.w3)):Hd m tag'=Hd m tag:=by rcases h with rfl|⟨rfl,rfl⟩<;>rfl
def kQ{g:Nat}{fn:XG}{pos:String}{a:MemOp}(h:a∈MemOp.ofEvents g fn pos es):∃e∈es,a.act=.ofEvent e/\a.g=g:=by
 rw[ofEvents_eq]at h;obtain⟨e,b,rfl⟩:=Array.mem_map.1 h;exact⟨e,b,rfl,rfl⟩
def bE4(h:Sep p e n (Js D) (Ss D))(r:p.Low<=w.heap.size)(f:∀k b,e<=k->k<n->(D k).S b->b<w.heap.size)(q:d'.J=(D i).J)(m:∀b,d'.S b->(D i).S b\/(w.heap.size<=b/\b<w'.heap.size)):
  Sep p e n (Js (upd D i d')) (Ss (upd D i d')):=by
 have o:∀k,(upd D i d' k).J=(D k).J:=λk=>by
  by_cases hk:k=i
  ·subst hk;rw[upd_same,q]
  ·rw[upd_ne _ _ hk]
 have g:∀k b,(upd D i d' k).S b->(D k).S b\/(k=i/\w.heap.size<=b):=λk b h=>by
  by_cases hk:k=i
  ·subst hk;rw[upd_same]at h;exact(m b h).imp id λx=>⟨rfl,x.1⟩
  ·rw[upd_ne _ _ hk]at h;exact .inl h
 refine⟨h.pos,h.le,λk a b k1 k2 k3 l h1 h2=>?_,λk a b k1 k2 k3 l h1 h2=>?_,λk b k1 k2 h1=>?_⟩
 ·rcases g k b h1 with x|⟨rfl,x⟩
  ·rcases g a b h2 with y|⟨rfl,y⟩
   ·exact h.s k a b k1 k2 k3 l x y
   ·have:=f k b k1 k2 x;omega
  ·rcases g a b h2 with y|⟨rfl,y⟩
   ·have:=f a b k3 l y;omega
   ·rfl
 ·have c:(upd D i d' k).J b:=h1;have d:(upd D i d' a).J b:=h2;rw[o]at c d;exact h.j k a b k1 k2 k3 l c d
 ·rcases g k b h1 with x|⟨rfl,x⟩
  ·exact h.low k b k1 k2 x
  ·omega
def stepW(hA:∀g,AtR g->g.status=.running)(a3:∀g w,Anch g w->g.status=.running)(ha:gs[0]? = A_ a)(a4:CS P p W aS job Fin Anch tag f d0 a w)(c:Wo P p AtR z val e n gs w D (Hd p.m tag))(A:Tr p e n D d0 (Hd p.m tag) w.heap.size t)(b7:0<i)(o:i<n){st' sm':Int}(hg:gs[i]? = A_ g)(a6:stepG P E_ g w=.go g' w' es)(K:R0 p w w')(b1:∀k,e<=k->k<n->k≠i->Rl p (D k).J (D k).S w w')(b5:WS P p AtR z val d' g' w')(Z:i<e->d'.stage=0)(a0:e<=i->1<=d'.stage)(hJ:d'.J=(D i).J)(E:∀b,d'.S b->(D i).S b\/(w.heap.size<=b/\b<w'.heap.size))(b0:∀ev∈es,∀x,(Td ev).touch? = A_ x->x.loc.isMemory=G_->(e<=i/\vK p d'.J d'.S x.loc)\/(e<=i/\sS p x.loc/\x.write=E_)\/(dX p x.loc/\x.kind≠.plain/\x.kind≠.said))(X:i<e->∀ev∈es,(Td ev).touch? = B_)(V:∀ev∈es,(Td ev).low w'.heap.size)(a9:∀ev∈es,ev.loc≠.mark (.release (stA p.Wg)))(a5:deafBehind (D i).deaf es=d'.deaf)(hrel:e<=i->d'.stage<=6->oL p (t++MemOp.ofEvents i g.frame.fn g.frame.place es) i)(b3:WgAt p.ty p.Wg w' st' sm')(F:gU p cl w')(B:(∃k,e<=k/\k<n/\k≠i/\(D k).stage=8)\/(∃r,tag=.gY r)->cl=E_)(I:∀tag',(tag'=tag\/(tag=.blk/\tag'=.w3))->(mayWake P g=G_->g'.status=.running->tag'≠.blk)->Mode e n W (upd D i d') tag' st' sm' cl)(a8:(d'.stage<(D i).stage/\cnt d'<=cnt (D i))\/(d'.stage=(D i).stage/\Rk.Lt d'.rk (D i).rk)):
  ∃m₁ ops μ',runT P (crowd gs w sl) i=(.next m₁,ops)/\Mu.Lt μ' ⟨phi W p.m (Vc n D) tag+Sm n D,n,λk=>(D k).rk,f⟩/\Inv P p AtR z val W aS job Fin Anch e μ' m₁ (t++ops):=by
 obtain⟨tag',f',T,l,b4⟩:=a4.wokenBy a3 c.gi K g g' (λr hr=>by have:=B (.inr ⟨r,hr⟩);subst this;exact F);have U:(i == 0)=E_:=by simp;omega
 have Y:=runT_crowd_go (sl:=sl) hg (by rw[U];exact a6);have e1:=sumTo_upd D d' cnt o;have e2:=sumTo_upd D d' WG.stage o;have b2:=K.size;have C:=bE4 c.sep c.gi.low c.sB hJ E
 have eJ:∀k,(upd D i d' k).J=(D k).J:=λk=>by
  by_cases hk:k=i
  ·subst hk;rw[upd_same,hJ]
  ·rw[upd_ne _ _ hk]
 have a7:i<gs.size:=by rw[c.size];exact o
 refine⟨_,_,⟨phi W p.m (Vc n (upd D i d')) tag'+Sm n (upd D i d'),n,λk=>(upd D i d' k).rk,f'⟩,Y,?_,_,w',sl,n,upd D i d',tag',f',d0,woken P g g' w' a,st',sm',cl,rfl,?_,T,?_,?_,b3,F,I tag' l b4,rfl⟩
 ·rcases a8 with⟨h1,h2⟩|⟨h1,h2⟩
  ·refine .a ?_;simp only;rw[phi_retag W p.m _ l];have:=phi_mono W p.m (v':=Vc n (upd D i d')) (v:=Vc n D) (by unfold Vc;omega) tag;unfold Sm;omega
  ·have ec:cnt d'=cnt (D i):=by simp only[cnt,h1]
   have ev:Vc n (upd D i d')=Vc n D:=by unfold Vc;omega
   refine .v ?_ rfl ⟨i,o,?_,λk hk=>?_⟩
   ·simp only;rw[phi_retag W p.m _ l,ev];unfold Sm;omega
   ·simp only[upd_same];exact h2
   ·simp only[upd_ne _ _ hk]
 ·rw[Sg o7,VL,ha];rfl
 ·refine⟨by simp[c.size],K.gi,λk M kn=>?_,?_,λk M ke=>?_,λk ke kn=>?_,C,λk b ke kn u=>?_,λk j ke kn q=>?_,λj q=>?_⟩
  ·by_cases hk:k=i
   ·subst hk;exact⟨g',by simp[a7],by rw[upd_same];exact b5⟩
   ·obtain⟨x,hx,b6⟩:=c.others hA b1 (λk ke kn ki h8=>by have:=B (.inl ⟨k,ke,kn,ki,h8⟩);subst this;exact F) k M kn hk;exact⟨x,hx,by rw[upd_ne _ _ hk];exact b6⟩
  ·rw[upd_ne _ _ o7];exact c.main
  ·by_cases hk:k=i
   ·subst hk;rw[upd_same];exact Z ke
   ·rw[upd_ne _ _ hk];exact c.old k M ke
  ·by_cases hk:k=i
   ·subst hk;rw[upd_same];exact a0 ke
   ·rw[upd_ne _ _ hk];exact c.new k ke kn
  ·by_cases hk:k=i
   ·subst hk;rw[upd_same]at u;rcases E b u with x|x
    ·have:=c.sB k b ke kn x;omega
    ·exact x.2
   ·rw[upd_ne _ _ hk]at u;have:=c.sB k b ke kn u;omega
  ·rw[eJ]at q;rw[Ma p.m l];exact c.jH k j ke kn q
  ·rw[Ma p.m l]at q;obtain⟨k,ke,kn,hk⟩:=c.zD j q;exact⟨k,ke,kn,by rw[eJ];exact hk⟩
 ·rw[Ma p.m l]
  have H:Tr p e n (upd D i { D i with S:=d'.S }) d0 (Hd p.m tag) w.heap.size t:=A.give
   (λk b u=>by
    by_cases hk:k=i
    ·subst hk;rw[upd_same]at u;exact(E b u).imp id (·.1)
    ·rw[upd_ne _ _ hk]at u;exact .inl u)
   (λk j q=>by
    by_cases hk:k=i
    ·subst hk;rw[upd_same]at q;exact .inl q
    ·rw[upd_ne _ _ hk]at q;exact .inl q) (λ_ h=>h)
   (λk _ _=>by
    by_cases hk:k=i
    ·subst hk;rw[upd_same]
    ·rw[upd_ne _ _ hk])
   (λk y=>by
    by_cases hk:k=i
    ·subst hk;rw[upd_same]at y;exact y
    ·rw[upd_ne _ _ hk]at y;exact y)
  have O:∀k,(upd D i d' k).J=(upd D i { D i with S:=d'.S } k).J:=λk=>by
   by_cases hk:k=i
   ·subst hk;rw[upd_same,upd_same,hJ]
   ·rw[upd_ne _ _ hk,upd_ne _ _ hk]
  have Q:∀k,(upd D i d' k).S=(upd D i { D i with S:=d'.S } k).S:=λk=>by
   by_cases hk:k=i
   ·subst hk;rw[upd_same,upd_same]
   ·rw[upd_ne _ _ hk,upd_ne _ _ hk]
  have L:Sep p e n (Js (upd D i { D i with S:=d'.S })) (Ss (upd D i { D i with S:=d'.S })):=by
   rw[<-GZ O,<-Jj Q];exact C
  refine H.app L o b2 (λN d=>(kQ d).choose_spec.2.2) (λN d x hx hm=>?_) (λ_ s N d=>?_) (λN d=>?_) (λs j q=>?_) (λN d hr=>?_) O Q ?_ (λk M kn=>?_) (λk hk R=>?_) (λs R=>?_)
  ·obtain⟨ev,G,h1,_⟩:=kQ d;rw[h1]at hx;have a1:Js (upd D i { D i with S:=d'.S }) i=d'.J:=by show(upd D i _ i).J=_;rw[upd_same,hJ]
   have a2:Ss (upd D i { D i with S:=d'.S }) i=d'.S:=by show(upd D i _ i).S=_;rw[upd_same]
   unfold JX;rw[a1,a2];rcases b0 ev G x hx hm with⟨h2,h3⟩|⟨h2,h3,h4⟩|⟨h2,h3,h4⟩
   ·exact .inl ⟨h2,o,h3⟩
   ·exact .inr (.inl ⟨h3,h4,.inr ⟨h2,o⟩⟩)
   ·exact .inr (.inr ⟨h2,h3,λh=>absurd h h4⟩)
  ·obtain⟨ev,G,h1,_⟩:=kQ d;rw[h1];exact X s ev G
  ·obtain⟨ev,G,h1,_⟩:=kQ d;rw[h1];exact V ev G
  ·rw[upd_same]at q;exact c.jH i j s o q
  ·obtain⟨ev,G,h1,_⟩:=kQ d;rw[h1]at hr;exact a9 ev G (loc_of_ofEvent hr)
  ·rw[Deaf_other t o7 _ (λN d=>(kQ d).choose_spec.2.2)];exact A.deaf0
  ·by_cases hk:k=i
   ·subst hk;rw[Deaf_own,A.deafW k M kn,upd_same,a5]
   ·rw[Deaf_other t (λe=>hk e.symm) _ (λN d=>(kQ d).choose_spec.2.2),A.deafW k M kn,upd_ne _ _ hk]
  ·rw[upd_ne _ _ hk]at R⊢;exact R
  ·rw[upd_same]at R;exact hrel s R
end
section
open Go.Rn hiding KK
open Go.Conc hiding served
open Go.ConcR (WgAt stA smA KK rd wr mk Payload again_blocked g_of_ofEvents loc_of_ofEvent)
open Go.ConcN (PermW fork_knows Deaf_absent RelBy RelBy.appNot Deaf_still upd upd_same upd_ne sumTo sumTo_upd sumTo_congr)
variable {n:Nat} {D D':Nat->WG} {e:Nat} {st sm:Int} {b:Bool} {W:Nat} {tag:Tag} {cl:Bool} {tag':Tag}
def JE(h:∀k,k<n->(D' k).stage=(D k).stage):Vc n D'=Vc n D:=sumTo_congr λk hk=>by simp only[cnt,h k hk]
def jm.same(h:∀k,k<n->(D' k).stage=(D k).stage)(d:jm e n D b st sm):jm e n D' b st sm:=by
 cases d with
 |reg h1 h2=>rw[<-JE h];exact .reg (λk a b=>by rw[h k b];exact h1 k a b) (by rw[JE h];exact h2)
 |last l h1 h2 h3 h4=>rw[<-h l h2];exact .last l h1 h2 (by rw[h l h2];exact h3) λk a b c=>by rw[h k b];exact h4 k a b c
 |sema h1=>exact .sema λk a b=>by rw[h k b];exact h1 k a b
def jm.up(a:jm e n D b st sm):jm e n D G_ st sm:=by
 cases a with
 |reg h1 h2=>exact .reg h1 h2
 |last l h1 h2 h3 h4=>exact .last l h1 h2 h3 h4
 |sema h1=>exact .sema h1
def Mode.same(h:∀k,k<n->(D' k).stage=(D k).stage)(c:Mode e n W D tag st sm cl):Mode e n W D' tag st sm cl:=by
 have o:sQ e n D->sQ e n D':=λx k a b=>by rw[h k b];exact x k a b
 have i:AO e n D->AO e n D':=λx k a b=>by rw[h k b];exact x k a b
 have s:Shut e n D->Shut e n D':=λx k a b=>by rw[h k b];exact x k a b
 have q:Quit e n D->Quit e n D':=λx k a b=>by rw[h k b];exact x k a b
 have v:=JE h;cases tag<;>simp only[Mode,v]at c⊢
 case gY=>exact⟨c.1,c.2.1,i c.2.2.1,c.2.2.2⟩
 case wm=>exact⟨c.1,c.2.1,c.2.2.same h⟩
 case w3=>exact⟨c.1,c.2.1,c.2.2.same h⟩
 case blk=>exact⟨c.1,c.2.1,c.2.2.same h⟩
 case kd=>exact⟨c.1,c.2.1,s c.2.2.1,c.2.2.2⟩
 case anch=>exact⟨c.1,c.2.1,s c.2.2.1,c.2.2.2⟩
 case w1=>exact⟨c.1,c.2.1,s c.2.2.1,c.2.2.2⟩
 case w2=>exact⟨c.1,c.2.1,s c.2.2.1,c.2.2.2⟩
 case w4=>exact⟨c.1,c.2.1,q c.2.2.1,c.2.2.2⟩
 case ke=>exact⟨c.1,c.2.1,q c.2.2.1,c.2.2.2⟩
 case acq=>exact⟨c.1,c.2.1,q c.2.2.1,c.2.2.2⟩
 all_goals exact⟨c.1,c.2.1,o c.2.2.1,c.2.2.2⟩
def Mode.retag(h:tag'=tag\/(tag=.blk/\tag'=.w3))(a:Mode e n W D tag st sm cl):Mode e n W D tag' st sm cl:=by
 rcases h with rfl|⟨rfl,rfl⟩
 ·exact a
 ·exact⟨a.1,a.2.1,a.2.2.up⟩
def Mode.open(c:Mode e n W D tag st sm cl)(h:(∃k,e<=k/\k<n/\(D k).stage=8)\/∃r,tag=.gY r):cl=E_:=by
 rcases h with⟨k,a,b,d⟩|⟨r,rfl⟩
 ·have shut:Shut e n D->False:=λh=>by have:=h k a b;omega
  have quit:Quit e n D->False:=λh=>by have:=h k a b;omega
  have reg:∀b',jm e n D b' st sm->False:=λb' h=>by
   cases h with
   |reg h1=>exact shut h1
   |last l h1 h2 h3 h4=>
    by_cases hk:k=l
    ·subst hk;omega
    ·have:=h4 k a b hk;omega
   |sema h1=>exact quit h1
  cases tag<;>simp only[Mode]at c<;>first|exact c.1|exact(shut c.2.2.1).elim|exact(quit c.2.2.1).elim|exact(reg _ c.2.2).elim
 ·exact c.1
def Ph{ev:K_}{x:Touch}(h:(Td ev).touch? = A_ x):(x.loc=ev.loc/\x.write=ev.write/\x.kind=if ev.sync then .atomic else .plain)\/∃a,(ev.loc=.mark (.read a)\/ev.loc=.mark (.write a))/\x.loc=.cell a/\x.kind=.said:=by
 obtain⟨l,wr,b⟩:=ev;cases l with
 |mark m=>
  right;cases m<;>simp[Td,VH]at h<;>subst h<;>exact⟨_,by simp,rfl,rfl⟩
 |_=>
  left;cases wr<;>cases b<;>simp[Td,VH]at h<;>subst h<;>simp
end
section
open Go.Rn hiding KK
open Go.Conc hiding served
open Go.ConcR (WgAt stA smA KK rd wr mk Payload again_blocked g_of_ofEvents loc_of_ofEvent)
open Go.ConcN (PermW fork_knows Deaf_absent RelBy RelBy.appNot Deaf_still upd upd_same upd_ne sumTo sumTo_upd sumTo_congr)
variable {P:TB} {p:Place} {AtR:H_->Prop} {z:D_} {val:Nat->D_} [Payload] {e n W:Nat} {gs:Array H_} {w w':C_} {sl:Option (Nat×Nat)} {D:Nat->WG} {aS:H_->C_->Prop} {job:Nat->D_} {Fin Anch:H_->C_->Prop} {tag:Tag} {f d0:Nat} {a:H_} {t:Trace} {st sm:Int} {cl:Bool}
variable {i:Nat} {d':WG} {J S:Nat->Prop} {B:Nat} {g g':H_} {es:Array K_} {gs':Array H_} {tag':Tag} {f':Nat} {a':H_} {u:Trace}
def ES(h:d'.stage=(D i).stage):∀k,k<n->(upd D i d' k).stage=(D k).stage:=λk _=>by
 by_cases hk:k=i
 ·subst hk;rw[upd_same,h]
 ·rw[upd_ne _ _ hk]
def aS0{ev:K_}(h:EvW p J S ev)(d:∀b,S b->b<B)(f:p.Low<=B):(Td ev).low B:=by
 have e:=p.an;obtain⟨l,wr,a⟩:=ev;cases l with
 |mark m=>
  have:=h.mark m rfl;cases m<;>simp[pJ]at this<;>exact trivial
 |cell x=>
  have c:x.block<B:=by
   rcases h.cell x rfl with h1|⟨h1,_⟩|⟨h1,_⟩
   ·exact d _ h1
   ·omega
   ·have:=h1.1;omega
  cases wr<;>cases a<;>exact c
 |obj r=>
  have c:r<B:=by
   rcases h.obj r rfl with h1|⟨h1,_⟩
   ·exact d _ h1
   ·have:=h1.1;omega
  cases wr<;>cases a<;>exact c
 |output=>cases wr<;>cases a<;>trivial
 |goroutines=>cases wr<;>cases a<;>trivial
def aS1{ev:K_}(h:EvW p J S ev){x:Touch}(e:(Td ev).touch? = A_ x)(d:x.loc.isMemory=G_):vK p J S x.loc\/(sS p x.loc/\x.write=E_):=by
 rcases Ph e with⟨h1,h2,_⟩|⟨a,h1|h1,_⟩
 ·cases hl:ev.loc with
  |cell b=>
   rw[h1,hl];rcases h.cell b hl with h3|⟨h3,c⟩|⟨h3,c⟩
   ·exact .inl (.inl ⟨b,rfl,.inl h3⟩)
   ·exact .inl (.inl ⟨b,rfl,.inr ⟨h3,c⟩⟩)
   ·exact .inr ⟨.inl ⟨b,rfl,h3⟩,h2.trans c⟩
  |obj r=>
   rw[h1,hl];rcases h.obj r hl with h3|⟨h3,c⟩
   ·exact .inl (.inr ⟨r,rfl,h3⟩)
   ·exact .inr ⟨.inr ⟨r,rfl,h3⟩,h2.trans c⟩
  |_=>rw[h1,hl]at d;cases d
 ·have:=h.mark _ h1;cases this
 ·have:=h.mark _ h1;cases this
def Le{ev:K_}(h:EvW p J S ev){m:Mark}(a:pJ m=E_):ev.loc≠.mark m:=λb=>by rw[h.mark m b]at a;cases a
def aDa(V:∀g,AtR g->g.status=.running)(E:∀g w,Anch g w->g.status=.running)(Y:gs[0]? = A_ a)(H:CS P p W aS job Fin Anch tag f d0 a w)(c:Wo P p AtR z val e n gs w D (Hd p.m tag))(O:Tr p e n D d0 (Hd p.m tag) w.heap.size t)(Q:WgAt p.ty p.Wg w st sm)(G:gU p cl w)(q:Mode e n W D tag st sm cl)(d:e<=i)(o:i<n){r':Rk}(Z:gs[i]? = A_ g)(K:stepG P E_ g w=.go g' w' es)(u:DW p (D i).J (D i).S w w' es)(I:(D i).deaf=0)(h6:6<(D i).stage)(R:WS P p AtR z val { D i with rk:=r',S:=more (D i).S w w' } g' w')(M:Rk.Lt r' (D i).rk):
  ∃m₁ ops μ',runT P (crowd gs w sl) i=(.next m₁,ops)/\Mu.Lt μ' ⟨phi W p.m (Vc n D) tag+Sm n D,n,λk=>(D k).rk,f⟩/\Inv P p AtR z val W aS job Fin Anch e μ' m₁ (t++ops):=by
 have T:=c.sep.pos;have C:∀b,(D i).S b->p.Low<=b:=λb l=>c.sep.low i b d o l
 have a0:=c.gi.low;have B:∀b,b<p.Low->b≠p.An->w'.heap[b]? = w.heap[b]? :=λb l F=>u.1.same b o7 (λN=>by have:=C b N;omega) F
 have X:∀b,more (D i).S w w' b->b<w'.heap.size:=λb l=>by
  have:=u.1.size;rcases l with l|l
  ·have:=c.sB i b d o l;omega
  ·exact l.2
 refine stepW V E Y H c O o7 o Z K (Rl.Ij c.gi u.1 C (λ_ h=>h.elim) (λ_ h=>h.elim))
  (λk ke kn U=>Rl.Ij c.gi u.1 C (λb l=>⟨λN=>U (c.sep.s k i b ke kn d o l N),c.sep.low k b ke kn l,c.sB k b ke kn l⟩) (λj hj L=>U (c.sep.j k i j ke kn d o hj L)))
  R (λh=>by omega) (λ_=>c.new i d o) rfl (λb l=>l) (λev A x hx hm=>?_) (λh=>by omega) (λev A=>aS0 (u.2 ev A) X (by have:=u.1.size;omega)) (λev A=>Le (u.2 ev A) rfl) ?_ (λ_ h=>by simp only at h;omega)
  ((B _ p.wg p.ga).trans Q) ?_ (λh=>q.open ?_) (λtag' ht _=>(q.retag ht).same (ES rfl)) (.inr ⟨rfl,M⟩)
 ·rcases aS1 (u.2 ev A) hx hm with h|h
  ·exact .inl ⟨d,h⟩
  ·exact .inr (.inl ⟨d,h⟩)
 ·rw[I];exact deafBehind_still (λev A=>⟨Le (u.2 ev A) rfl,Le (u.2 ev A) rfl⟩) 0
 ·obtain⟨s,r,h⟩:=G;exact⟨s,r,(B _ p.ch p.ca).trans h⟩
 ·exact h.imp (λ⟨k,x,y,_,v⟩=>⟨k,x,y,v⟩) id
def FM(a:Wo P p AtR z val e n gs w D (Hd p.m tag))(a2:Tr p e n D d0 (Hd p.m tag) w.heap.size t)(X:e<=i)(Z:i<n)(a1:gs'.size=n)(h0:gs'[0]? = A_ a')(hi:gs'[i]? = A_ g')(I:∀k,0<k->k<n->k≠i->gs'[k]? = gs[k]?)(U:CS P p W aS job Fin Anch tag' f' d0 a' w')(hr:∀k,e<=k->k<n->k≠i->Rl p (D k).J (D k).S w w')(Y:GI p w')(a4:WS P p AtR z val d' g' w')(hS:d'.S=(D i).S)(R:∀j,d'.J j↔(D i).J j\/(Hd p.m tag' j/\¬Hd p.m tag j))(hH:∀j,Hd p.m tag j->Hd p.m tag' j)(V:d'.deaf=(D i).deaf)(a0:1<=d'.stage)(h6:d'.stage<=6->(D i).stage<=6)(l:w'.heap.size=w.heap.size)(O:∀d∈u,d.g<n/\d.act.touch? = B_/\d.act.low w.heap.size/\∀m,d.act≠.mark m)(a3:WgAt p.ty p.Wg w' st sm)(T:gU p cl w')(v:Mode e n W (upd D i d') tag' st sm cl):
  Inv P p AtR z val W aS job Fin Anch e ⟨phi W p.m (Vc n (upd D i d')) tag'+Sm n (upd D i d'),n,λk=>(upd D i d' k).rk,f'⟩ (crowd gs' w' sl) (t++u):=by
 have K:=a.sep.pos
 have N:∀k,(upd D i d' k).S=(D k).S:=λk=>by
  by_cases hk:k=i
  ·subst hk;rw[upd_same,hS]
  ·rw[upd_ne _ _ hk]
 have B:∀k j,(upd D i d' k).J j->(D k).J j\/(k=i/\Hd p.m tag' j/\¬Hd p.m tag j):=λk j h=>by
  by_cases hk:k=i
  ·subst hk;rw[upd_same]at h;exact((R j).1 h).imp id λx=>⟨rfl,x⟩
  ·rw[upd_ne _ _ hk]at h;exact .inl h
 refine⟨gs',w',sl,n,upd D i d',tag',f',d0,a',st,sm,cl,rfl,h0,U,?_,?_,a3,T,v,rfl⟩
 ·refine⟨a1,Y,λk M kn=>?_,by rw[upd_ne _ _ o7];exact a.main,λk M ke=>by rw[upd_ne _ _ o7];exact a.old k M ke,λk ke kn=>?_,⟨K,a.sep.le,λk A b k1 k2 k3 Q h1 h2=>?_,λk A j k1 k2 k3 Q h1 h2=>?_,λk b k1 k2 h1=>?_⟩,λk b ke kn E=>?_,λk j ke kn F=>?_,λj F=>?_⟩
  ·by_cases hk:k=i
   ·subst hk;rw[upd_same];exact⟨g',hi,a4⟩
   ·obtain⟨x,hx,L⟩:=a.wk k M kn;rw[upd_ne _ _ hk,I k M kn hk];refine⟨x,hx,?_⟩;rcases Us k e with r|r
    ·exact PL (a.old k M r) L
    ·exact L.rely (hr k r kn hk)
  ·by_cases hk:k=i
   ·subst hk;rw[upd_same];exact a0
   ·rw[upd_ne _ _ hk];exact a.new k ke kn
  ·have f:(upd D i d' k).S b:=h1;have C:(upd D i d' A).S b:=h2;rw[N]at f C;exact a.sep.s k A b k1 k2 k3 Q f C
  ·rcases B k j h1 with x|⟨rfl,_,x⟩
   ·rcases B A j h2 with y|⟨rfl,_,y⟩
    ·exact a.sep.j k A j k1 k2 k3 Q x y
    ·exact(y (a.jH k j k1 k2 x)).elim
   ·rcases B A j h2 with y|⟨rfl,_,y⟩
    ·exact(x (a.jH A j k3 Q y)).elim
    ·rfl
  ·have f:(upd D i d' k).S b:=h1;rw[N]at f;exact a.sep.low k b k1 k2 f
  ·rw[N]at E;rw[l];exact a.sB k b ke kn E
  ·rcases B k j F with x|⟨_,x,_⟩
   ·exact hH j (a.jH k j ke kn x)
   ·exact x
  ·by_cases G:Hd p.m tag j
   ·obtain⟨k,ke,kn,hk⟩:=a.zD j G;refine⟨k,ke,kn,?_⟩
    by_cases H:k=i
    ·subst H;rw[upd_same];exact(R j).2 (.inl hk)
    ·rw[upd_ne _ _ H];exact hk
   ·exact⟨i,X,Z,by rw[upd_same];exact(R j).2 (.inr ⟨F,G⟩)⟩
 ·rw[l]
  have q:Tr p e n (upd D i d') d0 (Hd p.m tag') w.heap.size t:=a2.give (λk b E=>.inl (by rw[N]at E;exact E)) (λk j F=>(B k j F).imp id (·.2.2)) hH
   (λk _ _=>by
    by_cases hk:k=i
    ·subst hk;rw[upd_same,V]
    ·rw[upd_ne _ _ hk])
   (λk o=>by
    by_cases hk:k=i
    ·subst hk;rw[upd_same]at o;exact h6 o
    ·rw[upd_ne _ _ hk]at o;exact o)
  exact q.none o7 (RQ _) (λd c=>(O d c).1) (λd c=>(O d c).2.1) (λd c=>(O d c).2.2.1) (λd c=>(O d c).2.2.2) (λ_=>rfl) (λ_=>rfl) (λ_ _ _=>rfl) (λ_ h=>h)
def aZu(u:∀g,AtR g->g.status=.running)(k:∀g w,Anch g w->g.status=.running)(v:gs[0]? = A_ a)(d:CS P p W aS job Fin Anch tag f d0 a w)(b:Wo P p AtR z val e n gs w D (Hd p.m tag))(i:Nat):
  ∀j x,(gs.setIfInBounds i ph)[j]? = A_ x->offersAt x p.Ch G_≠[]->j=0/\i≠0/\∃r,tag=.gY r:=by
 intro j x B ho;rcases getElem?_stand gs i j x B with⟨_,rfl⟩|⟨l,c⟩
 ·exact(ho (offersAt_ph _ _)).elim
 ·have o:j<n:=by rw[<-b.size];exact(Sb.1 c).1
  rcases Vu j with rfl|A
  ·refine⟨rfl,λe=>l e.symm,?_⟩;rw[v]at c;cases c
   by_cases s:waits tag
   ·cases d with
    |gY=>exact⟨_,rfl⟩
    |blk h=>
     exfalso;apply ho;have:=(h w (.refl b.gi)).2.1;simp[offersAt,this]
    |_=>exact s.elim
   ·exact(ho (XC (by rw[d.running k b.gi s];simp) _ _)).elim
  ·obtain⟨y,t,q⟩:=b.wk j A o;rw[c]at t;cases t;exfalso;rcases q.status u b.gi with h|⟨h,_⟩|⟨C,rfl,_,_⟩
   ·exact ho (XC (by rw[h];simp) _ _)
   ·exact ho (XC (by rw[h];simp) _ _)
   ·exact ho (offersAt_parked_recv' _ _ _ _ _)
def bDo(o:∀g,AtR g->g.status=.running)(a:Wo P p AtR z val e n gs w D (Hd p.m tag)):∀j x,(gs.setIfInBounds 0 ph)[j]? = A_ x->offersAt x p.Ch E_≠[]->j≠0/\e<=j/\j<n/\(D j).stage=8/\∃d,x=sW p z d/\AtR d/\gs[j]? = A_ x:=by
 intro j x s ho;rcases getElem?_stand gs 0 j x s with⟨_,rfl⟩|⟨f,b⟩
 ·exact(ho (offersAt_ph _ _)).elim
 ·have c:j<n:=by rw[<-a.size];exact(Sb.1 b).1
  obtain⟨y,k,i⟩:=a.wk j o7 c;rw[b]at k;cases k;rcases i.status o a.gi with h|⟨h,_⟩|⟨d,rfl,r,l⟩
  ·exact(ho (XC (by rw[h];simp) _ _)).elim
  ·exact(ho (XC (by rw[h];simp) _ _)).elim
  ·refine⟨f,?_,c,l,d,rfl,r,b⟩;apply SL;intro q;have:=a.old j o7 o7;omega
end
end Go.Mw
