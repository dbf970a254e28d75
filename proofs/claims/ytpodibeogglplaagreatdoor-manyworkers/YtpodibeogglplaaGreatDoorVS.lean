/- ManyWorkers -/
import Derived.Test.YtpodibeogglplaaGreatDoorVR
import Derived.Conc.LeavingOf
import Derived.Test.YtpodibeogglplaaGreatDoorCards
import Derived.Test.YtpodibeogglplaaGreatDoorTie
import Derived.Deep.DeepHandedRow
open Go.RowKit
open Go.Proofs.Tryz
open Array renaming getD_eq_getD_getElem?->VW, ext'->YA, getElem?_eq_none->Te, mem_iff_getElem->Zm, getElem?_eq_getElem->Tf
open Bool renaming true->G_, false->E_, and_eq_true_iff->SH
open Go renaming Frame->I_, Goroutine->H_, World->C_, Value->D_, Addr->J_, TypeId->RZ, MemPlace->Wn, DataW->VN
open Go.Conc renaming AtRel->WW, stepG_seq->Sy, stepG_region_end->RX, stepG_ret'->WM, stepG_skip->Ug, stepG_block->Xx, goes_oper_k->UE, mem_listed->UZ, stepG_inBlock->R_
open Go.Conc.Goes renaming stop->Ta
open Go.DataW renaming trod->Yf
open Go.Frame renaming enter->Ur
open Go.IntKind renaming wrap_i64->XZ
open Go.Value renaming slice->f_, int->SX, cells->Yx
open Go.World renaming cell?_of_block->UN, cell?->SS
open List renaming range->Vj, map->Yh
open List.range renaming loop->Vo
open Nat renaming le_refl->RQ, zero_le->Sv
open Option renaming none->B_, some->A_, getD_some->Sq, map_eq_some_iff->Ul, bind_eq_some_iff->TK
open Option.some renaming injEq->Sk, inj->Uj
open Prod.mk renaming injEq->VQ
set_option linter.all false
set_option maxHeartbeats 4000000
set_option maxRecDepth 100000
namespace Go.Proofs.YtpodibeogglplaaGreatDoor
section
open Go.Mw Go.Conc.Lib Go.ConcR.Gen Go.ConcN.Gen
open Go.Conc hiding served
open Go.ConcR (DC0 WgAt stA)
variable {c:Cl} {b₀:I_} {a₀:Act} {ops₀:Array Oper} {i₀:Nat} {rest₀:List Nat} {k₀:List Item} {cs:List I_} {cap:Nat} {gs:Array H_} {w:C_} {sl:Option (Nat×Nat)} {q:Nat->Nat} {g:H_} {T:Array D_} {l:List (Nat×D_)} {m:Nat} {src:Option J_} {x y:Int} {Sh U:Loc->Prop} {NR:J_->Prop} {S:Nat->Prop} {I:C_->Prop} {Stop:(Nat->Prop)->H_->C_->Prop} {N1 n:Nat} {H:Array Obj} {o:Io} {xs:List Nat} {N2 i:Nat} {ad:J_} {tx:Nat->ByteArray} {N:Nat} {P:Program} {Post:D_->C_->Prop} {b:Nat} {a:J_} {v:D_} {W:C_}
noncomputable def entry (src:Option J_) (m cap W:Nat) (cs:List I_):H_:=G ((base 4).at ⟨(f_ src m cap::SX .i64 W::undef::undef::undef::undef::undef::undef::undef::undef::undef::undef::undef::undef::undef::undef::undef::undef::undef::undef::undef::undef::undef::undef::undef::undef::undef::undef::undef::undef::undef::undef::undef::undef::undef::undef::undef::undef::undef::undef::undef::undef::undef::undef::undef::undef::undef::undef::[]).toArray,[]⟩ [.code oQ]) cs
def Qs{k j:Nat}(a:j≠0):¬JM c.pl (.cell ⟨c.N+j,k,B_⟩):=by
 rintro⟨x,e,h⟩;cases e;have:c.N+j=c.N:=h;omega
def Qr{W:Nat}{Sh0:Loc->Prop}(ht:∀j,j<c.m->(c.tx j).size<=4000)(hm:c.m<=5)(a0:1<=W)(hW:W<=16){t:Trace}(c0:gs.size<=1000)(h0:gs[0]? = A_ (entry c.src c.m cap W (b₀.at a₀ (.inRegion ops₀ (i₀::rest₀)::k₀)::cs)))(hL:Leavers prog t gs q)(J:c.N=w.heap.size)(hH:c.H=w.heap)(ho:c.o=(io w))(hp:Past Sh0 w.heap.size t)(hq:Quiet Sh0 t)(hg:∀(i:Nat) (op:MemOp),t[i]? = A_ op->op.g<gs.size)(b1:∀l,Sh0 l->dX c.pl l)(b2:∀l,dX c.pl l->Sh0 l\/High w.heap.size l)(hgr:Rn.Ground lim (7+1) c.xs w)(hv:bE w)(b3:∀j,j<c.m->∃a,c.src=A_ a/\w.cell? (a.add j)=A_ (.string (c.tx j))):
  ∃(n:Nat) (gs':Array H_) (w':C_) (sl':Option (Nat×Nat)) (t':Trace) (q':Nat->Nat),runNT prog n (crowd gs w sl) t=(.next (crowd gs' w' sl'),t')/\gs'.size=W+gs.size/\gs'[0]? = A_ (behind c b₀ a₀ ops₀ i₀ rest₀ k₀ cs)/\Leavers prog t' gs' q'/\
   Past (dX c.pl) w'.heap.size t'/\Quiet (dX c.pl) t'/\(∀(i:Nat) (op:MemOp),t'[i]? = A_ op->op.g<gs'.size)/\GI c.pl w'/\(∀j,j<c.m->w'.cell? ⟨c.N,j,B_⟩=A_ (ans (c.tx j)))/\(∀b:Nat,b<c.N->¬(c.oC b\/c.oO b)->w'.heap[b]? = w.heap[b]?)/\(io w')=(io w):=by
 have R:JV c.pl gs.size w.heap.size t:=Fr.of hp hq hg b1 b2 (λl ⟨x,e,h⟩=>.inl ⟨x,e,by have h:x.block=c.N:=h;omega⟩) (λa h=>by
  rw[h];show w.heap.size<=c.N+4;omega)
 have hE:HE w.heap #[] (io w) w:=⟨by simp,rfl⟩;obtain⟨r,F⟩:=bCa (m:=c.m) (W:=W) (cap:=cap) (src:=c.src) (cs:=b₀.at a₀ (.inRegion ops₀ (i₀::rest₀)::k₀)::cs) (Sh:=dX c.pl) (U:=JM c.pl) (NR:=λx=>x=stA c.pl.Wg) (S:=λ_=>False) hm a0 hW w hE (λk=>J▸⟨aFo,Qs o7⟩) (λk=>J▸⟨aZ0,Qs o7⟩);obtain⟨n1,b9,a1,w1,b5,t1,q1,_,a8,c1,L,⟨P,s⟩,T,Q⟩:=beside (λ_ _ _ _ h=>h) (λS g w d h=>h) r _ _ gs _ w sl t q (RQ _) h0 hL R F;have p:∀b:Nat,b<w.heap.size->w1.heap[b]? = w.heap[b]? :=λb D=>s.old D
 have b8:=c.big;have E:Rn.Ground lim (7+1) c.xs w1:=DC hgr (λb D=>p b o7) (by rw[s.size];omega);have b4:bE w1:=hv.same λb D=>p b o7
 have G:∀j,j<c.m->∃a,c.src=A_ a/\w1.cell? (a.add j)=A_ (.string (c.tx j)):=λj hj=>by
  obtain⟨a,e,h⟩:=b3 j hj;refine⟨a,e,(UN ?_).trans h⟩;rw[zo];exact p _ (by have:=(c.ss o7 a e).1;omega)
 obtain⟨n2,c4,t2,a9,z,w2,b6,a2,q2,rfl,M,⟨b,hQ,nb,a7⟩,V,Y,⟨Z,a6,c2⟩,B,C⟩:=aLg (sl:=b5) (q:=q1) ht o7 o7 hW o7 L T Q (J▸P) J hH ho s E b4 G;have a5:=(wP B).ba
 have y:∃r,Tree prog G_ (λ_=>WW) (DA (dX c.pl) (λ_=>False) (λ_=>False)) (λ_ g w=>g=behind c b₀ a₀ ops₀ i₀ rest₀ k₀ cs/\w.heap=w2.heap/\(io w)=(io w2)) r (λ_=>False) a2 w2:=by
  refine gL ji jG (n:=nb) (LX (λg w h=>?_) (LY (I:=λw=>w.heap=w2.heap/\(io w)=(io w2)) (λa b=>ka) ⟨rfl,rfl⟩ a7));obtain⟨rfl,hk⟩:=h;exact back hQ hk (by rw[hk.1];exact a5)
 obtain⟨r3,a4⟩:=y;have A:Fr (dX c.pl) (λ_=>False) (λ_=>False) z.size w2.heap.size t2:=Fr.of Y Z a6 (λ_ h=>h) (λ_ h=>.inl h) (λ_ h=>h.elim) (λ_ h=>h.elim);obtain⟨n3,K,a3,w3,b7,t3,q3,_,b0,c3,O,⟨rfl,f⟩,X,u⟩:=beside (λ_ _ _ _ h=>h) (λS g w d h=>h) r3 _ _ z _ w2 b6 t2 q2 (RQ _) M V A a4
 have v:GI c.pl w3:=by
  obtain⟨k1,k2,k3,k4,k5⟩:=B;exact⟨by simpa only[WgAt,f.1]using k1,by simpa only[gU,f.1]using k2,by simpa only[AQ,f.1]using k3,by rw[f.1];exact k4,c.pl.yu _ _ (λb _=>by rw[f.1]) (by rw[f.1];exact RQ _) f.2 k5⟩
 refine⟨n1+(n2+n3),K,w3,b7,t3,q3,?_,by omega,O,X,u.past,u.quiet,u.gs,v,λj hj=>?_,λb D hn=>?_,(wP v).os.trans ho⟩
 ·simp only[runNT_add,a8,a9,b0]
 ·have:=C j hj;rw[<-this];simp only[SS,f.1];rfl
 ·rw[<-hH];exact(wP v).hp b D hn
noncomputable def mW:Code:=f3.body.getD .skip
noncomputable def l3:Code:=match mW with| .seq _ (.seq _ (.seq (.seq _ (.block _ (.loop c))) _))=>c|_=>.skip
noncomputable def C8:Code:=match mW with| .seq _ (.seq _ (.seq _ c))=>c|_=>.skip
noncomputable def r8:Array Oper:=match C8 with| .seq (.region _ o _) _=>o|_=>#[]
noncomputable def C9:Code:=match C8 with| .seq _ c=>c|_=>.skip
noncomputable def r9:Array Oper:=match C9 with| .seq (.region _ o _) _=>o|_=>#[]
noncomputable def qI:Code:=match C9 with| .seq _ c=>c|_=>.skip
noncomputable def Et:Array Oper:=match qI with| .seq (.seq (.region _ o _) _) _=>o|_=>#[]
noncomputable def k10:Code:=match qI with| .seq (.seq _ c) _=>c|_=>.skip
noncomputable def vI:Code:=match qI with| .seq _ c=>c|_=>.skip
noncomputable def l4:Code:=match vI with| .seq (.seq _ (.block _ (.loop c))) _=>c|_=>.skip
noncomputable def sO:Code:=match vI with| .seq _ c=>c|_=>.skip
def uK(g:H_):Prop:=∃(T:Array D_) (todo:List Item),g=G { (base 3).at ⟨T,[]⟩ todo with mode:=.returning } []/\T.getD 6 undef=.bool G_
def aSn(h:uK g)(w:C_):stepG prog G_ g w=.ended (.done (.bool G_)) w #[]:=by
 obtain⟨T,a,rfl,h⟩:=h;simp[G,stepG,unwind,doReturn,results,Frame.at,base,func3,f3,seen,GStep.after,-VW,h]
def nm4:(f4.name == "runtime.NumGoroutine")=E_:=by kernel_rfl
def nm5:(f5.name == "runtime.NumGoroutine")=E_:=by kernel_rfl
def Ts(T:Array D_)(l:List (Nat×D_)):Prop:=T.size=94/\∀p∈l,T[p.1]? = A_ p.2
def Ts.ex(h:Ts T l):∃v:Nat->D_,T=((Vj 94).map v).toArray/\∀p∈l,v p.1=p.2:=by
 refine⟨λi=>T.getD i undef,?_,λp hp=>?_⟩
 ·refine Array.ext (by simp[h.1]) λi h1 _=>?_
  simp[Array.getD,h1]
 ·show T.getD p.1 undef=p.2;rw[VW,h.2 p hp];rfl
def Ts.of(a:T.size=94:=by rfl)(b:∀p∈l,T[p.1]? = A_ p.2:=by simp):Ts T l:=⟨a,b⟩
@[simp] def LA (src:Option J_) (m cap:Nat) (x y i:Int):List (Nat×D_):=[(0,.slice src m cap),(1,.int .i64 x),(2,.int .i64 y),(7,.int .i64 i)]
@[simp] def LF (src:Option J_) (m cap N1 N2:Nat) (l:List (Nat×D_)):List (Nat×D_):=(0,.slice src m cap)::(8,.slice (A_ ⟨N1,0,B_⟩) m m)::(9,.nilIface)::(10,.slice (A_ ⟨N2,0,B_⟩) m m)::(11,.nilIface)::l
abbrev LT(Sh U:Loc->Prop)(NR:J_->Prop)(Stop:(Nat->Prop)->H_->C_->Prop)(S:Nat->Prop)(g:H_)(w:C_):Prop:=∃r,Tree prog G_ (λ_=>WW) (DA Sh U NR) Stop r S g w
def aWy(b:∀{w d:C_},I w->WW w d->I d)(c:∀g w,uK g->I w->LT Sh U NR Stop S g w)(f:Ts T ([(0,.slice src m cap),(1,.int .i64 x),(2,.int .i64 y)]))(w:C_)(a:I w)(k:¬(5:Int)<(m:Int)->∀(T:Array D_) (w:C_),Ts T (LA src m cap x y 0)->I w->LT Sh U NR Stop S (G ((base 3).at ⟨T,[]⟩ [.code l3,.inLoop l3,.inBlock 0,.code C8]) []) w):LT Sh U NR Stop S (G ((base 3).at ⟨T,[]⟩ [.code mW]) []) w:=by
 obtain⟨v,rfl,hv⟩:=f.ex;simp at hv;simp only[Vj,Vo,Yh,hv,l3,C8,mW,f3,Sq]at k⊢;refine gL ji jG (n:=30) ?_
 u_c Sy b a
 u_reg b a
 u_op b a
 u_c RX b a
 u_c Sy b a
 u_c Sy b a
 u_reg b a
 u_op b a
 u_op b a
 u_op b a
 u_c RX b a
 by_cases e:(5:Int)<(m:Int)
 ·simp only[e,decide_true]
  u_cond G_ b a
  u_c Sy b a
  u_reg b a
  u_op b a
  u_c RX b a
  u_c WM b a
  exact Ta λd h₁=>c _ _ ⟨_,_,rfl,rfl⟩ (b a h₁)
 ·simp only[e,decide_false]
  u_cond E_ b a
  u_c Ug b a
  u_c Sy b a
  u_c Sy b a
  u_reg b a
  u_op b a
  u_c RX b a
  u_c Xx b a
  u_c stepG_loop b a
  exact Ta λd h₁=>k e _ d .of (b a h₁)
noncomputable def FH:Code:=f5.body.getD .skip
def nY(x:Int):Nat:=(x % 16).toNat
def IE(x:Int):nY x<16:=by unfold nY;omega
def aGs{x:Int}{Sh U:Loc->Prop}{NR:J_->Prop}{S:Nat->Prop}{I:C_->Prop}{Stop:(Nat->Prop)->H_->C_->Prop}{cs:List I_}{b₀:I_}{a₀:Act}{ops₀:Array Oper}{i₀:Nat}{rest₀:List Nat}{k₀:List Item}(b:∀{w c:C_},I w->WW w c->I c)(w:C_)(a:I w)(k:∀w,I w->∃r,Tree prog G_ (λ_=>WW) (DA Sh U NR) Stop r S (G (b₀.at (a₀.put ((ops₀[i₀]?).bind (·.dst)) (.int .i64 (nY x))) (.inRegion ops₀ rest₀::k₀)) cs) w):
  ∃r,Tree prog G_ (λ_=>WW) (DA Sh U NR) Stop r S (G ((base 5).at ⟨#[.int .i64 x,.int .i64 16,undef,undef,undef,undef,undef,undef,undef,undef,undef],[]⟩ [.code FH]) (b₀.at a₀ (.inRegion ops₀ (i₀::rest₀)::k₀)::cs)) w:=by
 simp only[FH,f5,Sq];refine gL ji jG (n:=20) ?_
 u_c Sy b a
 u_reg b a
 u_op b a
 u_c RX b a
 u_c Sy b a
 u_reg b a
 u_op b a
 u_op b a
 u_op b a
 u_op b a
 u_op b a
 u_op b a
 u_op b a
 u_c RX b a
 u_c WM b a
 u_leave1 func5 b a
 refine Ta λc h₁=>?_
 have d:IntKind.i64.wrap ((x % 18446744073709551616).tmod 16)=((nY x:Nat):Int):=by
  rw[Int.tmod_eq_emod_of_nonneg o7,XZ];unfold nY;omega
 rw[d];exact k c (b a h₁)
def aW1(b:∀{w c:C_},I w->WW w c->I c)(f:Ts T (LA src m cap x y m))(w:C_)(a:I w)(k:∀(T:Array D_) (w:C_),Ts T (LA src m cap x y m)->I w->LT Sh U NR Stop S (entry src m cap (1+nY x:Nat) (((base 3).at ⟨T,[]⟩ (.inRegion r8 (4::[5,6,7,8,9])::[.code C9]))::[])) w):LT Sh U NR Stop S (G ((base 3).at ⟨T,[]⟩ [.code C8]) []) w:=by
 have hp:=IE x;have d:=@aGs x;simp only[FH,f5,Sq]at d;obtain⟨v,rfl,hv⟩:=f.ex;simp at hv;simp only[Vj,Vo,Yh,hv,entry,oQ,f4,C8,C9,r8,mW,f3,Sq]at k⊢;refine gL ji jG (n:=30) ?_
 u_c Sy b a
 u_reg b a
 u_op b a
 u_op b a
 u_in b a
 refine goes_call rfl rfl (by k_ne) rfl func5 nm5 rfl ⟨by u_nil,?_⟩
 walk_nrmf f5
 refine Ta λc h₁=>?_
 refine d b c (b a h₁) ?_;clear h₁ d a;intro w a;refine gL ji jG (n:=30) ?_
 walk_nrm
 u_op b a
 have e:IntKind.i64.wrap (1+((nY x:Nat):Int))=((1+nY x:Nat):Int):=by rw[XZ];omega
 rw[e]
 u_in b a
 refine goes_call rfl rfl (by k_ne) rfl func4 nm4 rfl ⟨by u_nil,?_⟩;refine Ta λc h₁=>?_
 walk_nrmf f4
 exact k _ c .of (b a h₁)
def aW2(b:∀{w c:C_},I w->WW w c->I c)(f:Ts T (LA src m cap x y m++[(34,.tuple #[.slice (A_ ⟨N1,0,B_⟩) m m,.nilIface])]))(w:C_)(a:I w)(k:∀(T:Array D_) (w:C_),Ts T (LA src m cap x y m++[(8,.slice (A_ ⟨N1,0,B_⟩) m m),(9,.nilIface)])->I w->LT Sh U NR Stop S (entry src m cap (1+nY y:Nat) (((base 3).at ⟨T,[]⟩ (.inRegion r9 (4::[5,6,7,8,9])::[.code qI]))::[])) w):LT Sh U NR Stop S (G ((base 3).at ⟨T,[]⟩ [.inRegion r8 [5,6,7,8,9],.code C9]) []) w:=by
 have hp:=IE y;have d:=@aGs y;simp only[FH,f5,Sq]at d;obtain⟨v,rfl,hv⟩:=f.ex;simp at hv;simp only[Vj,Vo,Yh,hv,entry,oQ,f4,C8,C9,qI,r8,r9,mW,f3,Sq]at k⊢;refine gL ji jG (n:=30) ?_
 u_op b a
 u_op b a
 u_op b a
 u_op b a
 u_op b a
 u_c RX b a
 u_c Sy b a
 u_reg b a
 u_op b a
 u_op b a
 u_in b a
 refine goes_call rfl rfl (by k_ne) rfl func5 nm5 rfl ⟨by u_nil,?_⟩
 walk_nrmf f5
 refine Ta λc h₁=>?_
 refine d b c (b a h₁) ?_;clear h₁ d a;intro w a;refine gL ji jG (n:=30) ?_
 walk_nrm
 u_op b a
 have e:IntKind.i64.wrap (1+((nY y:Nat):Int))=((1+nY y:Nat):Int):=by rw[XZ];omega
 rw[e]
 u_in b a
 refine goes_call rfl rfl (by k_ne) rfl func4 nm4 rfl ⟨by u_nil,?_⟩;refine Ta λc h₁=>?_
 walk_nrmf f4
 exact k _ c .of (b a h₁)
def Kp(n:Nat)(H:Array Obj)(o:Io)(w:C_):Prop:=(∀b:Nat,b<n->w.heap[b]? = H[b]?)/\n<=w.heap.size/\(io w)=o
def yB{w₁:C_}(h:Kp n H o w)(r:WW w w₁):Kp n H o w₁:=by
 obtain⟨d,rfl⟩:=r;exact h
def Free(Sh U:Loc->Prop)(b:Nat):Prop:=(∀a:J_,a.block=b->¬Sh (.cell a)/\¬U (.cell a))/\¬Sh (.obj b)/\¬U (.obj b)
def bE5{F0:I_}(t:ByteArray)(m:t.size<=4000)(hn:7+1<=n)(hxs:∀x∈xs,x<n)(hgr:∀w,Kp n H o w->Rn.Ground lim (7+1) xs w)(hv:∀w,Kp n H o w->bE w)(h1:∀b,b<7+1\/b∈xs->Free Sh U b)(h2:∀b,n<=b->Free Sh U b)(h3:(¬Sh .output/\¬U .output)/\¬Sh .goroutines/\¬U .goroutines)(j:∀f∈F0::cs,∀l k,f.todo≠.inRangeFunc l::k)(w:C_)(e:Kp n H o w)(k:∀S w,Kp n H o w->∃r,Tree prog G_ (λ_=>WW) (DA Sh U NR) Stop r S { frame:=F0.finish (ans t),callers:=cs,status:=.running,dying:=B_ } w):
  ∃r,Tree prog G_ (λ_=>WW) (DA Sh U NR) Stop r S { frame:=Ur prog 6 #[.string t] .normal,callers:=F0::cs,status:=.running,dying:=B_ } w:=by
 obtain⟨r,i⟩:=aHx (main:=G_) (R:=λ_=>WW) (D:=Mw.Does λb=>b<7+1\/b∈xs) (Sh:=λb=>b<7+1\/b∈xs) (xs:=xs) (c:=F0) (Cs:=cs) (W:=w) t m j (λS W p h=>by
  obtain⟨d,rfl⟩:=h;exact⟨λ_ _=>rfl,RQ _,rfl⟩) (λ_ _ _ _ _ h=>h) (S:=λ_=>False) (hgr w e) (hv w e) (λb a=>.inl a) (λb a=>.inr a)
 have fr:=aJh (Sh:=Sh) (U:=U) (NR:=NR) (H:=H) (n0:=n) (o:=o) (S:=S) (S₀:=λ_=>False) (λb a=>⟨a.elim (λh=>by omega) (hxs b),(h1 b a).1,(h1 b a).2.1,(h1 b a).2.2⟩) h2 h3 (λ_ h=>h.elim) e.1 e.2.1 e.2.2 i;refine fr.bind ji λS' g w' _ ⟨⟨S₀,hB⟩,hK⟩=>?_
 unfold AA at hB;rw[hB];exact k S' w' hK
def aZr(w:C_):(binOp .neq 24 .nilIface .nilIface).run prog w=.ok (.bool E_) w:=by kernel_rfl
def aZq(w:C_)(es:Array Event):(binOp .neq 24 .nilIface .nilIface).events prog w es=es:=by kernel_rfl
def aW3(b:∀{w c:C_},I w->WW w c->I c)(d:Ts T (LA src m cap x y m++[(8,.slice (A_ ⟨N1,0,B_⟩) m m),(9,.nilIface),(42,.tuple #[.slice (A_ ⟨N2,0,B_⟩) m m,.nilIface])]))(w:C_)(a:I w)(k:∀(T:Array D_) (w:C_),Ts T (LF src m cap N1 N2 [(65,.bool E_)])->I w->LT Sh U NR Stop S (G (((base 3).at ⟨T,[]⟩ (.inRegion Et (21::[22,23])::[.code k10,.code vI]))) []) w):LT Sh U NR Stop S (G ((base 3).at ⟨T,[]⟩ [.inRegion r9 [5,6,7,8,9],.code qI]) []) w:=by
 have e:=aZr;have f:=aZq;obtain⟨v,rfl,hv⟩:=d.ex;simp at hv;simp only[Vj,Vo,Yh,hv,qI,vI,C8,C9,r9,Et,k10,mW,f3,Sq]at k⊢;refine gL ji jG (n:=50) ?_
 u_op b a
 u_op b a
 u_op b a
 u_op b a
 u_op b a
 u_c RX b a
 u_c Sy b a
 u_c Sy b a
 u_reg b a
 first|u_op b a|u_skip b a
 first|u_op b a|u_skip b a
 first|u_op b a|u_skip b a
 first|u_op b a|u_skip b a
 first|u_op b a|u_skip b a
 first|u_op b a|u_skip b a
 first|u_op b a|u_skip b a
 first|u_op b a|u_skip b a
 first|u_op b a|u_skip b a
 first|u_op b a|u_skip b a
 first|u_op b a|u_skip b a
 first|u_op b a|u_skip b a
 first|u_op b a|u_skip b a
 first|u_op b a|u_skip b a
 first|u_op b a|u_skip b a
 first|u_op b a|u_skip b a
 first|u_op b a|u_skip b a
 first|u_op b a|u_skip b a
 first|u_op b a|u_skip b a
 first|u_op b a|u_skip b a
 first|u_op b a|u_skip b a
 exact Ta λc h₁=>k _ c .of (b a h₁)
def aW4(b:∀{w c:C_},I w->WW w c->I c)(d:Ts T (LF src m cap N1 N2 [(65,.bool E_),(66,.string ⟨#[101,114,114,111,114,32,51,10]⟩)]))(w:C_)(a:I w)(k:∀(T:Array D_) (w:C_),Ts T (LF src m cap N1 N2 [(12,.int .i64 0)])->I w->LT Sh U NR Stop S (G ((base 3).at ⟨T,[]⟩ [.code l4,.inLoop l4,.inBlock 2,.code sO]) []) w):LT Sh U NR Stop S (G ((base 3).at ⟨T,[]⟩ (.inRegion Et [22,23]::[.code k10,.code vI])) []) w:=by
 obtain⟨v,rfl,hv⟩:=d.ex;simp at hv;simp only[Vj,Vo,Yh,hv,qI,vI,sO,C8,C9,Et,k10,l4,mW,f3,Sq]at k⊢;refine gL ji jG (n:=50) ?_
 u_op b a
 u_op b a
 u_c RX b a
 u_cond E_ b a
 u_c Ug b a
 u_c Sy b a
 u_c Sy b a
 u_reg b a
 u_op b a
 u_c RX b a
 u_c Xx b a
 u_c stepG_loop b a
 exact Ta λc h₁=>k _ c .of (b a h₁)
noncomputable def Eu:Array Oper:=match l4 with| .seq _ (.seq (.block _ (.seq (.region _ o _) _)) _)=>o|_=>#[]
noncomputable def k16:Code:=match l4 with| .seq _ (.seq (.block _ (.seq _ c)) _)=>c|_=>.skip
noncomputable def c14:Code:=match l4 with| .seq _ (.seq _ c)=>c|_=>.skip
def aW5(b:∀{w f:C_},I w->WW w f->I f)(hi:i<m){tx:ByteArray}(d:src=A_ ad)(s:∀w,I w->w.cell? (ad.add i)=A_ (.string tx)/\nE Sh U NR w.heap.size ⟨.cell (ad.add i),E_,E_⟩)(o:Ts T (LF src m cap N1 N2 [(12,.int .i64 i)]))(w:C_)(a:I w)(k:∀(T:Array D_) (w:C_),Ts T (LF src m cap N1 N2 [(12,.int .i64 i),(78,.string tx)])->I w->LT Sh U NR Stop S (G ((base 3).at ⟨T,[]⟩ (.inRegion Eu (4::[5])::[.code k16,.inBlock 3,.code c14,.inLoop l4,.inBlock 2,.code sO])) []) w):LT Sh U NR Stop S (G ((base 3).at ⟨T,[]⟩ [.code l4,.inLoop l4,.inBlock 2,.code sO]) []) w:=by
 have r:(i:Int)<(m:Int):=by omega
 have q:(0:Int)<=(i:Int):=by omega
 subst d;obtain⟨v,rfl,hv⟩:=o.ex;simp at hv;simp only[Vj,Vo,Yh,hv,l4,sO,vI,qI,C9,C8,Eu,k16,c14,mW,f3,Sq]at k⊢;refine gL ji jG (n:=30) ?_
 u_c Sy b a
 u_c Sy b a
 u_reg b a
 u_op b a
 u_op b a
 u_op b a
 u_op b a
 u_c RX b a
 u_cond G_ b a
 u_c Ug b a
 u_c Sy b a
 u_c Xx b a
 u_c Sy b a
 u_reg b a
 u_op b a
 u_op b a
 u_op b a
 refine Ta λf h₁=>?_
 replace a:=b a h₁;clear h₁;refine ig rfl λf h₁=>UE rfl rfl d7 λK g=>?_
 replace a:=b a h₁;obtain⟨j,c⟩:=s f a;go_simp;refine g _ _ ⟨⟨RQ _,λe p=>?_⟩,?_⟩
 ·have l:=UZ p;simp[go_sem,j]at l;subst l;exact c
 clear g K h₁ j c;rw[lH _ rfl];exact k _ _ .of a
def aW6(b:∀{w d:C_},I w->WW w d->I d)(hi:i<m)(f:m<=5){s:ByteArray}(q:∀w,I w->w.cell? ⟨N1,i,B_⟩=A_ (.string s)/\nE Sh U NR w.heap.size ⟨.cell ⟨N1,i,B_⟩,E_,E_⟩)(r:∀w,I w->w.cell? ⟨N2,i,B_⟩=A_ (.string s)/\nE Sh U NR w.heap.size ⟨.cell ⟨N2,i,B_⟩,E_,E_⟩)(p:Ts T (LF src m cap N1 N2 [(12,.int .i64 i),(79,.string s)]))(w:C_)(a:I w)(k:∀(T:Array D_) (w:C_),Ts T (LF src m cap N1 N2 [(12,.int .i64 (i+1:Nat))])->I w->LT Sh U NR Stop S (G ((base 3).at ⟨T,[]⟩ [.code l4,.inLoop l4,.inBlock 2,.code sO]) []) w):LT Sh U NR Stop S (G ((base 3).at ⟨T,[]⟩ (.inRegion Eu [5]::[.code k16,.inBlock 3,.code c14,.inLoop l4,.inBlock 2,.code sO])) []) w:=by
 have u:(i:Int)<(m:Int):=by omega
 have t:(0:Int)<=(i:Int):=by omega
 obtain⟨v,rfl,hv⟩:=p.ex;simp at hv;simp only[Vj,Vo,Yh,hv,l4,sO,vI,qI,C9,C8,Eu,k16,c14,mW,f3,Sq]at k⊢;refine gL ji jG (n:=30) ?_
 u_op b a
 u_c RX b a
 u_c Sy b a
 u_reg b a
 u_op b a
 u_op b a
 u_op b a
 refine Ta λd h₁=>?_
 replace a:=b a h₁;clear h₁;refine ig rfl λd h₁=>UE rfl rfl d7 λK g=>?_
 replace a:=b a h₁;obtain⟨j,c⟩:=q d a;go_simp;refine g _ _ ⟨⟨RQ _,λe l=>?_⟩,?_⟩
 ·have f:=UZ l;simp[go_sem,j]at f;subst f;exact c
 clear g K h₁ j c;rw[lH _ rfl];refine gL ji jG (n:=30) ?_
 u_op b a
 u_op b a
 u_op b a
 u_op b a
 u_op b a
 u_op b a
 refine Ta λd h₁=>?_
 replace a:=b a h₁;clear h₁;refine ig rfl λd h₁=>UE rfl rfl d7 λK g=>?_
 replace a:=b a h₁;obtain⟨j,c⟩:=r d a;go_simp;refine g _ _ ⟨⟨RQ _,λe l=>?_⟩,?_⟩
 ·have f:=UZ l;simp[go_sem,j]at f;subst f;exact c
 clear g K h₁ j c;rw[lH _ rfl];refine gL ji jG (n:=30) ?_
 u_op b a
 u_op b a
 u_op b a
 u_c RX b a
 u_cond E_ b a
 u_c Ug b a
 u_c R_ b a
 u_reg b a
 u_op b a
 u_op b a
 u_op b a
 u_c RX b a
 u_c stepG_inLoop b a
 have o:IntKind.i64.wrap ((i:Int)+1)=((i+1:Nat):Int):=by rw[XZ];omega
 rw[o];exact Ta λd h₁=>k _ d .of (b a h₁)
def aW7(b:∀{w d:C_},I w->WW w d->I d)(c:∀g w,uK g->I w->LT Sh U NR Stop S g w)(e:Ts T (LF src m cap N1 N2 [(12,.int .i64 m)]))(w:C_)(a:I w):LT Sh U NR Stop S (G ((base 3).at ⟨T,[]⟩ [.code l4,.inLoop l4,.inBlock 2,.code sO]) []) w:=by
 have f:¬(m:Int)<(m:Int):=by omega
 obtain⟨v,rfl,hv⟩:=e.ex;simp at hv;simp only[Vj,Vo,Yh,hv,l4,sO,vI,qI,C9,C8,mW,f3,Sq];refine gL ji jG (n:=30) ?_
 u_c Sy b a
 u_c Sy b a
 u_reg b a
 u_op b a
 u_op b a
 u_op b a
 u_op b a
 u_c RX b a
 u_cnd E_ b a
 u_exit b a
 u_c Sy b a
 u_reg b a
 u_op b a
 u_c RX b a
 u_c WM b a
 exact Ta λd h₁=>c _ _ ⟨_,_,rfl,rfl⟩ (b a h₁)
def aS5(tx:ByteArray)(w:C_)(es:Array Event):(Builtin.len_ #[9] 3 #[.string tx]).events prog w es=es:=by kernel_rfl
def aWz(b:∀{w c:C_},I w->WW w c->I c)(d:∀g w,uK g->I w->LT Sh U NR Stop S g w)(hi:i<m)(l:m<=5){tx:ByteArray}(j:src=A_ ad)(B:∀w,I w->w.cell? (ad.add i)=A_ (.string tx)/\nE Sh U NR w.heap.size ⟨.cell (ad.add i),E_,E_⟩)(s:Ts T (LA src m cap x y i))(w:C_)(a:I w)(k:¬(2000:Int)<(tx.size:Int)->∀(T:Array D_) (w:C_),Ts T (LA src m cap x y (i+1:Nat))->I w->LT Sh U NR Stop S (G ((base 3).at ⟨T,[]⟩ [.code l3,.inLoop l3,.inBlock 0,.code C8]) []) w):LT Sh U NR Stop S (G ((base 3).at ⟨T,[]⟩ [.code l3,.inLoop l3,.inBlock 0,.code C8]) []) w:=by
 have A:(i:Int)<(m:Int):=by omega
 have u:(0:Int)<=(i:Int):=by omega
 subst j;obtain⟨v,rfl,hv⟩:=s.ex;simp at hv;simp only[Vj,Vo,Yh,hv,l3,C8,mW,f3,Sq]at k⊢;refine gL ji jG (n:=30) ?_
 u_c Sy b a
 u_c Sy b a
 u_reg b a
 u_op b a
 u_op b a
 u_op b a
 u_op b a
 u_c RX b a
 u_cond G_ b a
 u_c Ug b a
 u_c Sy b a
 u_c Xx b a
 u_c Sy b a
 u_reg b a
 u_op b a
 u_op b a
 u_op b a
 refine Ta λc h₁=>?_
 replace a:=b a h₁;clear h₁;refine ig rfl λc h₁=>UE rfl rfl d7 λK p=>?_
 replace a:=b a h₁;obtain⟨q,f⟩:=B c a;go_simp;refine p _ _ ⟨⟨RQ _,λe t=>?_⟩,?_⟩
 ·have l:=UZ t;simp[go_sem,q]at l;subst l;exact f
 clear p K h₁ q f;rw[lH _ rfl];have z:=aS5 tx;refine gL ji jG (n:=30) ?_
 u_op b a
 u_op b a
 u_c RX b a
 by_cases o:(2000:Int)<(tx.size:Int)
 ·simp only[o,decide_true]
  u_cond G_ b a
  u_c Sy b a
  u_reg b a
  u_op b a
  u_c RX b a
  u_c WM b a
  exact Ta λc h₁=>d _ _ ⟨_,_,rfl,rfl⟩ (b a h₁)
 ·simp only[o,decide_false]
  u_cond E_ b a
  u_c Ug b a
  u_c R_ b a
  u_reg b a
  u_op b a
  u_op b a
  u_op b a
  u_c RX b a
  u_c stepG_inLoop b a
  have r:IntKind.i64.wrap ((i:Int)+1)=((i+1:Nat):Int):=by rw[XZ];omega
  rw[r];exact Ta λc h₁=>k o _ c .of (b a h₁)
def aW0(b:∀{w c:C_},I w->WW w c->I c)(d:Ts T (LA src m cap x y m))(w:C_)(a:I w)(k:∀(T:Array D_) (w:C_),Ts T (LA src m cap x y m)->I w->LT Sh U NR Stop S (G ((base 3).at ⟨T,[]⟩ [.code C8]) []) w):LT Sh U NR Stop S (G ((base 3).at ⟨T,[]⟩ [.code l3,.inLoop l3,.inBlock 0,.code C8]) []) w:=by
 have e:¬(m:Int)<(m:Int):=by omega
 obtain⟨v,rfl,hv⟩:=d.ex;simp at hv;simp only[Vj,Vo,Yh,hv,l3,C8,mW,f3,Sq]at k⊢;refine gL ji jG (n:=30) ?_
 u_c Sy b a
 u_c Sy b a
 u_reg b a
 u_op b a
 u_op b a
 u_op b a
 u_op b a
 u_c RX b a
 u_cnd E_ b a
 u_exit b a
 exact Ta λc h₁=>k _ c .of (b a h₁)
def aKt(m cap:Nat)(src:Option J_)(x y:Int)(g:H_):Prop:=∃T:Array D_,g=entry src m cap (1+nY x) ((base 3).at ⟨T,[]⟩ (.inRegion r8 (4::[5,6,7,8,9])::[.code C9])::[])/\Ts T (LA src m cap x y m)
def AtC2(m cap N1:Nat)(src:Option J_)(x y:Int)(g:H_):Prop:=∃T:Array D_,g=entry src m cap (1+nY y) ((base 3).at ⟨T,[]⟩ (.inRegion r9 (4::[5,6,7,8,9])::[.code qI])::[])/\Ts T (LA src m cap x y m++[(8,.slice (A_ ⟨N1,0,B_⟩) m m),(9,.nilIface)])
def Qg(m cap:Nat)(src:Option J_)(x y:Int)(tx:Nat->ByteArray)(H:Array Obj)(o:Io)(_:Nat->Prop)(g:H_)(w:C_):Prop:=(uK g\/(aKt m cap src x y g/\∀j,j<m->(tx j).size<=2000))/\w.heap=H/\(io w)=o
def aXv(q:m<=5)(e:∀j,j<m->∃a,src=A_ a/\a.block<H.size/\∀w:C_,w.heap=H->w.cell? (a.add j)=A_ (.string (tx j))):∀(r i:Nat),i+r=m->(∀j,j<i->(tx j).size<=2000)->∀(T:Array D_) (w:C_),Ts T (LA src m cap x y i)->(w.heap=H/\(io w)=o)->
  LT (λ_=>False) (λ_=>False) (λ_=>False) (Qg m cap src x y tx H o) S (G ((base 3).at ⟨T,[]⟩ [.code l3,.inLoop l3,.inBlock 0,.code C8]) []) w:=by
 intro r
 induction r with
 |zero=>
  intro i hi d T w c b;obtain rfl:i=m:=by omega
  exact aW0 ka c w b λT w c b=>aW1 ka c w b λT w c b=>⟨.zero,λt h₁=>⟨.inr ⟨⟨_,rfl,c⟩,d⟩,ka b h₁⟩⟩
 |succ r ih=>
  intro i hi d T w c b;obtain⟨a,k,l,n⟩:=e i o7;have s:∀w:C_,w.heap=H/\(io w)=o->w.cell? (a.add i)=A_ (.string (tx i))/\nE (λ_=>False) (λ_=>False) (λ_=>False) w.heap.size ⟨.cell (a.add i),E_,E_⟩:=λw f=>⟨n w f.1,zK (λh=>h) (λh=>h) (by rw[zo,f.1];exact l)⟩
  exact aWz ka (λg w p b=>⟨.zero,λt h₁=>⟨.inl p,ka b h₁⟩⟩) o7 q k s c w b λv=>ih (i+1) o7 λj u=>by
   rcases Nat.lt_or_ge j i with h|h
   ·exact d j h
   ·obtain rfl:j=i:=by omega
    omega
def bGm(d:m<=5->∀j,j<m->∃a,src=A_ a/\a.block<H.size/\∀w:C_,w.heap=H->w.cell? (a.add j)=A_ (.string (tx j)))(c:Ts T [(0,.slice src m cap),(1,.int .i64 x),(2,.int .i64 y)])(w:C_)(b:w.heap=H/\(io w)=o):
  LT (λ_=>False) (λ_=>False) (λ_=>False) (λS g w=>Qg m cap src x y tx H o S g w/\(uK g\/m<=5)) S (G ((base 3).at ⟨T,[]⟩ [.code mW]) []) w:=
 aWy (I:=λw=>w.heap=H/\(io w)=o) ka (λg w e b=>⟨.zero,λi h₁=>⟨⟨.inl e,ka b h₁⟩,.inl e⟩⟩) c w b λl T w c b=>by
  obtain⟨r,f⟩:=aXv (S:=S) o7 (d o7) m 0 o7 (λj k=>by omega) T w c b;exact Tree.bind ji f λS g w _ h=>⟨.zero,λi h₁=>⟨⟨h.1,ka h.2 h₁⟩,.inr o7⟩⟩
structure Fu(Sh U:Loc->Prop)(n:Nat)(H:Array Obj)(o:Io)(xs:List Nat):Prop where
 hn:7+1<=n
 hxs:∀x∈xs,x<n
 hgr:∀w,Kp n H o w->Rn.Ground lim (7+1) xs w
 hv:∀w,Kp n H o w->bE w
 h1:∀b,b<7+1\/b∈xs->Free Sh U b
 h2:∀b,n<=b->Free Sh U b
 h3:(¬Sh .output/\¬U .output)/\¬Sh .goroutines/\¬U .goroutines
def Rq{os:Io}{b:I_}{a:Act}{ops:Array Oper}{rest:List Nat}{kk:List Item}{o:Oper}{arg:Operand}{ats:Array RZ}(A:Fu Sh U n H os xs)(t:ByteArray)(q:t.size<=4000)(ho:ops[i]? = A_ o)(s:Region.wanted o (yielded ops a.tmps)=G_)(hk:b.kind≠.early)(g:o.op=.call { callee:=.value (.func 6),args:=#[arg],argTypes:=ats })(d:a.eval arg=.string t)(w:C_)(c:Kp n H os w)(k:∀S w,Kp n H os w->∃r,Tree prog G_ (λ_=>WW) (DA Sh U NR) Stop r S (G (b.at (a.put o.dst (ans t)) (.inRegion ops rest::kk)) []) w):
  ∃r,Tree prog G_ (λ_=>WW) (DA Sh U NR) Stop r S (G (b.at a (.inRegion ops (i::rest)::kk)) []) w:=by
 refine ig rfl λu h₁=>?_
 replace c:=yB c h₁;refine goes_call ho s hk g func6 nm6 rfl ⟨⟨RQ _,λe p=>by simp at p⟩,?_⟩;rw[lH _ rfl,<-enter_at _ func6 rfl];have m:Array.map a.eval #[arg]=#[.string t]:=by simp[d]
 rw[m];unfold G;refine bE5 t q A.hn A.hxs A.hgr A.hv A.h1 A.h2 A.h3 (λf j l k=>?_) u c λS w c=>?_
 ·simp only[List.mem_cons,List.not_mem_nil,or_false]at j;subst j;simp[Frame.at]
 ·rw[Frame.finish_at,ho];exact k S w c
def bGn(d:c.m=m)(b:Ts T (LA src m cap x y m))(w:C_)(a:w.heap=H/\(io w)=o):
  ∃r,Tree prog G_ (λ_=>WW) (DA Sh U NR) (λ_ g w=>AtC2 m cap c.N src x y g/\w.heap=H/\(io w)=o) r S (behind c (base 3) ⟨T,[]⟩ r8 4 [5,6,7,8,9] [.code C9] []) w:=by
 subst d;obtain⟨v,rfl,hv⟩:=b.ex;simp at hv;have e:(r8[4]?).bind (·.dst)=A_ 34:=rfl;simp only[Vj,Vo,Yh,hv,behind,e];exact aW2 (N1:=c.N) ka .of w a λT w b a=>⟨.zero,λf h₁=>⟨⟨_,rfl,b⟩,ka a h₁⟩⟩
def aLz:ans ⟨#[120,10]⟩=.string ⟨#[101,114,114,111,114,32,51,10]⟩:=by
 have h:vC [120,10]=[101,114,114,111,114,32,51,10]:=by decide +kernel
 show Value.string (aQ (vC [120,10]))=_;rw[h];rfl
def aXw(A:Fu Sh U N H o xs)(n:m<=5)(q:∀j,j<m->(tx j).size<=4000)(d:∀S g w,uK g->Kp N H o w->∃r,Tree prog G_ (λ_=>WW) (DA Sh U NR) Stop r S g w)(f:∀j,j<m->∃a,src=A_ a/\∀w:C_,Kp N H o w->w.cell? (a.add j)=A_ (.string (tx j))/\nE Sh U NR w.heap.size ⟨.cell (a.add j),E_,E_⟩)(k:∀j,j<m->∀w:C_,Kp N H o w->w.cell? ⟨N1,j,B_⟩=A_ (ans (tx j))/\nE Sh U NR w.heap.size ⟨.cell ⟨N1,j,B_⟩,E_,E_⟩)(l:∀j,j<m->∀w:C_,Kp N H o w->w.cell? ⟨N2,j,B_⟩=A_ (ans (tx j))/\nE Sh U NR w.heap.size ⟨.cell ⟨N2,j,B_⟩,E_,E_⟩):
  ∀(r i:Nat),i+r=m->∀(T:Array D_) (S:Nat->Prop) (w:C_),Ts T (LF src m cap N1 N2 [(12,.int .i64 i)])->Kp N H o w->LT Sh U NR Stop S (G ((base 3).at ⟨T,[]⟩ [.code l4,.inLoop l4,.inBlock 2,.code sO]) []) w:=by
 intro r
 induction r with
 |zero=>
  intro i hi T S w c b;obtain rfl:i=m:=by omega
  exact aW7 yB (d S) c w b
 |succ r ih=>
  intro i hi T S w c b;obtain⟨a,e,p⟩:=f i o7;refine aW5 yB o7 e p c w b λT w c b=>?_
  obtain⟨v,rfl,hv⟩:=c.ex;simp at hv;simp only[Vj,Vo,Yh,hv];refine Rq A (tx i) (q i o7) (o:={ dst:=A_ 79,op:=.call { callee:=.value (.func 6),args:=#[.tmp 78],argTypes:=#[9] },type:=9,pos:= "keep.go:511",after:=#[{ on:=3,ground:=.data }],guard:=B_ }) rfl rfl d7 rfl rfl w b λS w b=>?_
  exact aW6 yB o7 n (k i o7) (l i o7) (.of r7 (by simp[ans])) w b λT w c b=>ih (i+1) o7 T S w c b
def bGo(i:c.m=m)(A:Fu Sh U N H o xs)(p:m<=5)(q:∀j,j<m->(tx j).size<=4000)(d:∀S g w,uK g->Kp N H o w->∃r,Tree prog G_ (λ_=>WW) (DA Sh U NR) Stop r S g w)(k:∀j,j<m->∃a,src=A_ a/\∀w:C_,Kp N H o w->w.cell? (a.add j)=A_ (.string (tx j))/\nE Sh U NR w.heap.size ⟨.cell (a.add j),E_,E_⟩)(l:∀j,j<m->∀w:C_,Kp N H o w->w.cell? ⟨N1,j,B_⟩=A_ (ans (tx j))/\nE Sh U NR w.heap.size ⟨.cell ⟨N1,j,B_⟩,E_,E_⟩)(n:∀j,j<m->∀w:C_,Kp N H o w->w.cell? ⟨c.N,j,B_⟩=A_ (ans (tx j))/\nE Sh U NR w.heap.size ⟨.cell ⟨c.N,j,B_⟩,E_,E_⟩)(f:Ts T (LA src m cap x y m++[(8,.slice (A_ ⟨N1,0,B_⟩) m m),(9,.nilIface)]))(w:C_)(b:Kp N H o w):
  ∃r,Tree prog G_ (λ_=>WW) (DA Sh U NR) Stop r S (behind c (base 3) ⟨T,[]⟩ r9 4 [5,6,7,8,9] [.code qI] []) w:=by
 subst i;obtain⟨v,rfl,hv⟩:=f.ex;simp at hv;have e:(r9[4]?).bind (·.dst)=A_ 42:=rfl;simp only[Vj,Vo,Yh,hv,behind,e];refine aW3 (m:=c.m) (cap:=cap) (N1:=N1) (N2:=c.N) (src:=src) (x:=x) (y:=y) yB .of w b λT w f b=>?_
 obtain⟨v,rfl,hv⟩:=f.ex;simp at hv;simp only[Vj,Vo,Yh,hv];refine Rq A ⟨#[120,10]⟩ d7 (o:={ dst:=A_ 66,op:=.call { callee:=.value (.func 6),args:=#[.const (.string ⟨#[120,10]⟩)],argTypes:=#[9] },type:=9,pos:= "keep.go:507",after:=#[{ on:=20,ground:=.chain },{ on:=20,ground:=.guard }],guard:=A_ (20,E_) }) rfl rfl d7 rfl rfl w b λS w b=>?_
 rw[aLz];refine aW4 (m:=c.m) (cap:=cap) (N1:=N1) (N2:=c.N) (src:=src) yB .of w b λT w f b=>?_
 exact aXw A p q d k l n c.m 0 o7 T S w f b
def EC{a b:Machine}{c d:Trace}(h:runNT P n a c=(.next b,d))(k:∃N last o w' t',runNT P (N+1) b d=(.ended o w',t')/\runN P N b=.next last/\step P last=.ended o w'/\Conc.Good P Post last o w' t'):
  ∃N last o w' t',runNT P (N+1) a c=(.ended o w',t')/\runN P N a=.next last/\step P last=.ended o w'/\Conc.Good P Post last o w' t':=by
 obtain⟨N,last,o,w',t',e1,e2,e,f⟩:=k;refine⟨n+N,last,o,w',t',?_,?_,e,f⟩
 ·rw[Nat.add_assoc,runNT_add,h];exact e1
 ·rw[runN_add,<-runNT_fst P _ _ c,h];exact e2
def aHr{t:Trace}(h0:gs[0]? = A_ g)(b:uK g)(f:Leavers prog t gs q)(d:Fr Sh U NR gs.size w.heap.size t)(hp:∀a,WW w a->Post (.bool G_) a):
  ∃N last o w' t',runNT prog (N+1) (crowd gs w sl) t=(.ended o w',t')/\runN prog N (crowd gs w sl)=.next last/\step prog last=.ended o w'/\Conc.Good prog Post last o w' t':=
 beside_ends (D:=λ_ _ _=>False) (n:=0) (λ_ _ _ h=>h.elim) h0 f d.past λa h₁=>⟨by obtain⟨T,c,rfl,_⟩:=b;rfl,_,_,aSn b a,λe b=>by simp at b,hp a h₁⟩
def LJ(h1:b≠c.N+4)(h2:b≠c.N+2)(h3:¬(c.oC b\/c.oO b)):Free (dX c.pl) (λ_=>False) b:=by
 refine⟨λa d=>⟨?_,λh=>h⟩,?_,λh=>h⟩
 ·rintro(⟨a',e,h⟩|⟨r,e,_⟩)
  ·cases e;subst d;exact h.elim h1 λh=>h3 (.inl h)
  ·cases e
 ·rintro(⟨a',e,_⟩|⟨r,e,h⟩)
  ·cases e
  ·cases e;exact h.elim h2 λh=>h3 (.inr h)
def bBd:(¬dX c.pl .output/\¬False)/\¬dX c.pl .goroutines/\¬False:=by
 refine⟨⟨?_,λh=>h⟩,?_,λh=>h⟩
 all_goals rintro(⟨a,e,_⟩|⟨r,e,_⟩)<;>cases e
def Qe(W:C_)(v:D_)(w':C_):Prop:=v=.bool G_/\(∀b:Nat,b<W.heap.size->w'.heap[b]? = W.heap[b]?)/\W.heap.size<=w'.heap.size/\(io w')=(io W)
def T0(src:Option J_)(m cap:Nat)(x y:Int):Array D_:=(.slice src m cap::.int .i64 x::.int .i64 y::List.replicate 91 undef).toArray
def aSp:Ur prog 3 #[.slice src m cap,.int .i64 x,.int .i64 y] .normal=(base 3).at ⟨T0 src m cap x y,[]⟩ [.code mW]:=by
 rw[enter_at _ func3 (c:=mW) k7]
 kernel_rfl
def Df{w':C_}(h:w'.heap[a.block]? = w.heap[a.block]?)(k:w.cell? a=A_ v):w'.cell? a=A_ v:=(UN h).trans k
def bEb(hm:m<=5)(d2:∀j,j<m->(tx j).size<=2000)(hgr:Rn.Ground lim (7+1) xs W)(hv:bE W)(v:0<m->∀a,src=A_ a->a.block<W.heap.size)(G:∀j,j<m->∃a,src=A_ a/\W.cell? (a.add j)=A_ (.string (tx j))){T1:Array D_}(b9:Ts T1 (LA src m cap x y m)){s:Array H_}{w1:C_}{J:Option (Nat×Nat)}{t1:Trace}{q1:Nat->Nat}(e2:s.size=1)(a2:s[0]? = A_ (entry src m cap (1+nY x) ((base 3).at ⟨T1,[]⟩ (.inRegion r8 (4::[5,6,7,8,9])::[.code C9])::[])))(p:w1.heap=W.heap/\(io w1)=(io W))(b0:Leavers prog t1 s q1)(B:Fr (λ_=>False) (λ_=>False) (λ_=>False) s.size w1.heap.size t1):
  ∃N last o w' t',runNT prog (N+1) (crowd s w1 J) t1=(.ended o w',t')/\runN prog N (crowd s w1 J)=.next last/\step prog last=.ended o w'/\Conc.Good prog (Qe W) last o w' t':=by
 have R:7+1<=W.heap.size:=hgr.size;have e0:=IE x;have e1:=IE y;have F:∀j,j<m->(tx j).size<=4000:=λj t=>by have:=d2 j t;omega
 let c1:Cl:={ N:=W.heap.size,m:=m,xs:=xs,src:=src,tx:=tx,oC:=λ_=>False,oO:=λ_=>False,H:=W.heap,o:=(io W),big:=R,old:=λ_ h=>by simp at h,sx:=λx K=>⟨(hgr.up x K).2,by simp⟩,ss:=λh0 a u=>⟨v h0 a u,by simp⟩ }
 have f:∀b:Nat,w1.heap[b]? = W.heap[b]? :=λb=>by rw[p.1]
 obtain⟨n2,M,w2,d3,t2,q2,c8,e3,a3,b1,b5,b7,c5,a8,D,Z,X⟩:=Qr (c:=c1) (W:=1+nY x) (sl:=J) (Sh0:=λ_=>False) F hm o7 o7 o7 a2 b0 (by rw[p.1]) (by rw[p.1]) p.2.symm B.past B.quiet B.gs (λ_ h=>h.elim) (λl V=>.inr (by
  rw[p.1];rcases V with⟨a,rfl,h⟩|⟨r,rfl,h⟩
  ·refine .inl ⟨a,rfl,?_⟩;rcases h with h|h
   ·have h:a.block=W.heap.size+4:=h;omega
   ·exact h.elim
  ·refine .inr ⟨r,rfl,?_⟩;rcases h with h|h
   ·have h:r=W.heap.size+2:=h;omega
   ·exact h.elim)) (DC hgr (λb _=>f b) (by rw[p.1];exact RQ _)) (hv.same λb _=>f b) (λj t=>by
  obtain⟨a,u,T⟩:=G j t;exact⟨a,u,Df (f _) T⟩)
 refine EC c8 ?_;have d6:W.heap.size+5<=w2.heap.size:=a8.low;have i:∀b:Nat,b<W.heap.size->w2.heap[b]? = W.heap[b]? :=λb e=>(Z b e (by simp[c1])).trans (f b)
 obtain⟨r3,s3⟩:=bGn (Sh:=dX c1.pl) (U:=λ_=>False) (NR:=λ_=>False) (S:=λ_=>False) (c:=c1) rfl b9 w2 ⟨rfl,rfl⟩;have P:Fr (dX c1.pl) (λ_=>False) (λ_=>False) M.size w2.heap.size t2:=Fr.of b5 b7 c5 (λ_ h=>h) (λ_ h=>.inl h) (λ_ h=>h.elim) (λ_ h=>h.elim);obtain⟨n3,d8,g3,w3,d4,t3,q3,_,c9,e4,a4,⟨⟨T2,rfl,c0⟩,q⟩,b2,C⟩:=beside (λ_ _ _ _ h=>h) (λS g w d h=>h) r3 _ _ M _ w2 d3 t2 q2 (RQ _) a3 b1 P s3;refine EC c9 ?_;have k:∀b:Nat,w3.heap[b]? = w2.heap[b]? :=λb=>by rw[q.1]
 have I:∀b,b<W.heap.size->¬(b=W.heap.size+4\/b=W.heap.size+2):=λb e h=>by omega
 let c2:Cl:={ N:=w2.heap.size,m:=m,xs:=xs,src:=src,tx:=tx,oC:=λb=>b=W.heap.size+4,oO:=λb=>b=W.heap.size+2,H:=w2.heap,o:=(io w2),big:=by omega,old:=λb h=>by omega,sx:=λx K=>⟨by have:=(hgr.up x K).2;omega,I _ (hgr.up x K).2⟩,ss:=λh0 a u=>⟨by have:=v h0 a u;omega,I _ (v h0 a u)⟩ }
 have a1:Rn.Ground lim (7+1) xs w3:=DC hgr (λb e=>(k b).trans (i b o7)) (by rw[q.1];omega)
 obtain⟨n4,O,w4,d5,t4,q4,d0,e5,a5,b3,b6,b8,c6,a9,E,a0,Y⟩:=Qr (c:=c2) (W:=1+nY y) (sl:=d4) (Sh0:=dX c1.pl) F hm o7 o7 o7 a4 b2 (by rw[q.1]) (by rw[q.1]) q.2.symm C.past C.quiet C.gs (λl V=>by
  rcases V with⟨a,rfl,h⟩|⟨r,rfl,h⟩
  ·exact .inl ⟨a,rfl,.inr (h.resolve_right (λh=>h))⟩
  ·exact .inr ⟨r,rfl,.inr (h.resolve_right (λh=>h))⟩) (λl V=>by
  rw[q.1];rcases V with⟨a,rfl,h⟩|⟨r,rfl,h⟩
  ·rcases h with h|h
   ·have h:a.block=w2.heap.size+4:=h;exact .inr (.inl ⟨a,rfl,by omega⟩)
   ·exact .inl (.inl ⟨a,rfl,.inl h⟩)
  ·rcases h with h|h
   ·have h:r=w2.heap.size+2:=h;exact .inr (.inr ⟨r,rfl,by omega⟩)
   ·exact .inl (.inr ⟨r,rfl,.inl h⟩)) a1 (hv.same λb e=>(k b).trans (i b o7)) (λj t=>by
  obtain⟨a,u,T⟩:=G j t;exact⟨a,u,Df (by rw[zo];exact(k _).trans (i _ (v (Nat.lt_of_le_of_lt (Sv j) t) a u))) T⟩)
 refine EC d0 ?_;have d7:w2.heap.size+5<=w4.heap.size:=a9.low;have z:∀b:Nat,b<w2.heap.size->b≠W.heap.size+4->b≠W.heap.size+2->w4.heap[b]? = w2.heap[b]? :=λb e h1 h2=>(a0 b e (λh=>h.elim h1 h2)).trans (k b)
 have L:∀b:Nat,b<W.heap.size->w4.heap[b]? = W.heap[b]? :=λb e=>(z b o7 o7 o7).trans (i b e)
 have low:∀w,Kp w4.heap.size w4.heap (io w4) w->∀b:Nat,b<W.heap.size->w.heap[b]? = W.heap[b]? :=λw n b e=>(n.1 b o7).trans (L b e)
 have A:Fu (dX c2.pl) (λ_=>False) w4.heap.size w4.heap (io w4) xs:=⟨by omega,λx K=>by have:=(hgr.up x K).2;omega,λw n=>DC hgr (λb e=>low w n b o7) (by have:=n.2.1;omega),λw n=>hv.same λb e=>low w n b o7,λb e=>by
  have c3:b<W.heap.size:=e.elim (λh=>by omega) λh=>(hgr.up b h).2
  exact LJ (c:=c2) (show b≠w2.heap.size+4 by omega) (show b≠w2.heap.size+2 by omega) (I b c3),λb e=>LJ (c:=c2) (show b≠w2.heap.size+4 by omega) (show b≠w2.heap.size+2 by omega) (show¬(b=W.heap.size+4\/b=W.heap.size+2) by omega),bBd⟩
 have ev:∀(a:J_) (w:C_),Kp w4.heap.size w4.heap (io w4) w->a.block<w4.heap.size->a.block≠w2.heap.size+4->a.block≠w2.heap.size+2->¬(a.block=W.heap.size+4\/a.block=W.heap.size+2)->nE (dX c2.pl) (λ_=>False) (λ_=>False) w.heap.size ⟨.cell a,E_,E_⟩:=λa w n h1 h2 h3 h4=>zK ((LJ (c:=c2) h2 h3 h4).1 a rfl).1 (λh=>h) (by have:=n.2.1;omega)
 obtain⟨r5,s5⟩:=bGo (Sh:=dX c2.pl) (U:=λ_=>False) (NR:=λ_=>False) (S:=λ_=>False) (c:=c2) (N1:=W.heap.size) (tx:=tx) (Stop:=λ_ g w=>uK g/\Kp w4.heap.size w4.heap (io w4) w) rfl A hm F (λS g w he hF=>⟨.zero,λw₁ h₁=>⟨he,yB hF h₁⟩⟩)
  (λj t=>by
   obtain⟨a,u,T⟩:=G j t;have e:=v (Nat.lt_of_le_of_lt (Sv j) t) a u;refine⟨a,u,λw n=>⟨Df (by rw[zo];exact low w n _ e) T,ev _ w n ?_ ?_ ?_ ?_⟩⟩
   all_goals(rw[zo];omega))
  (λj t w n=>⟨Df (a:=⟨W.heap.size,j,B_⟩) ((n.1 _ (show W.heap.size<w4.heap.size by omega)).trans (z _ o7 o7 o7)) (D j t),ev _ w n (show W.heap.size<w4.heap.size by omega) (show W.heap.size≠w2.heap.size+4 by omega) (show W.heap.size≠w2.heap.size+2 by omega) (show¬(W.heap.size=W.heap.size+4\/W.heap.size=W.heap.size+2) by omega)⟩)
  (λj t w n=>⟨Df (a:=⟨w2.heap.size,j,B_⟩) (n.1 _ (show w2.heap.size<w4.heap.size by omega)) (E j t),ev _ w n (show w2.heap.size<w4.heap.size by omega) (show w2.heap.size≠w2.heap.size+4 by omega) (show w2.heap.size≠w2.heap.size+2 by omega) (show¬(w2.heap.size=W.heap.size+4\/w2.heap.size=W.heap.size+2) by omega)⟩)
  c0 w4 ⟨λ_ _=>rfl,RQ _,rfl⟩
 have Q:Fr (dX c2.pl) (λ_=>False) (λ_=>False) O.size w4.heap.size t4:=Fr.of b6 b8 c6 (λ_ h=>h) (λ_ h=>.inl h) (λ_ h=>h.elim) (λ_ h=>h.elim);obtain⟨n5,d9,g5,w5,e7,t5,q5,_,d1,e6,a6,⟨c4,c7⟩,b4,a7⟩:=beside (λ_ _ _ _ h=>h) (λS g w d h=>h) r5 _ _ O _ w4 d5 t4 q4 (RQ _) a5 b3 Q s5;refine EC d1 (aHr a6 c4 b4 a7 λw₁ h₁=>?_);have hk:=yB c7 h₁;refine⟨rfl,λb e=>low w₁ hk b e,by have:=hk.2.1;omega,hk.2.2.trans (Y.trans (q.2.trans (X.trans p.2)))⟩
def bHi(hgr:Rn.Ground lim (7+1) xs W)(hv:bE W)(p:0<m->∀a,src=A_ a->a.block<W.heap.size)(r:m<=5->∀j,j<m->∃a,src=A_ a/\W.cell? (a.add j)=A_ (.string (tx j))):
  ∃N last o w' t',runNT prog (N+1) (solo (G (Ur prog 3 #[.slice src m cap,.int .i64 x,.int .i64 y] .normal) []) W) #[]=(.ended o w',t')/\runN prog N (solo (G (Ur prog 3 #[.slice src m cap,.int .i64 x,.int .i64 y] .normal) []) W)=.next last/\
   step prog last=.ended o w'/\Conc.Good prog (Qe W) last o w' t':=by
 have e:=aSp (m:=m) (cap:=cap) (src:=src) (x:=x) (y:=y);rw[e,solo_eq_crowd];have C:7+1<=W.heap.size:=hgr.size
 obtain⟨L,M⟩:=bGm (m:=m) (cap:=cap) (src:=src) (x:=x) (y:=y) (tx:=tx) (H:=W.heap) (o:=(io W)) (S:=λ_=>False) (λc j I=>by
  obtain⟨a,B,F⟩:=r c j I;exact⟨a,B,p o7 a B,λw J=>by rw[<-F];simp only[SS,J]⟩) (T:=T0 src m cap x y) (.of r7 (by simp[T0])) W ⟨rfl,rfl⟩
 have s:Fr (λ_=>False) (λ_=>False) (λ_=>False) 1 W.heap.size #[]:=⟨past_nil.mono (Sv _),λi K x hi=>by simp at hi,λi K hi=>by simp at hi,λ_ _ _ h=>h,λ_ h=>h.elim⟩;obtain⟨V,E,U,w1,O,Y,X,_,v,A,f,⟨⟨q,n⟩,c⟩,l,k⟩:=beside (λ_ _ _ _ h=>h) (λS g w d h=>h) L _ _ #[G ((base 3).at ⟨T0 src m cap x y,[]⟩ [.code mW]) []] _ W B_ #[] (λ_=>0) (RQ _) rfl (leavers_one _ _) s M;refine EC v ?_;rcases q with u|⟨⟨R,rfl,t⟩,z⟩
 ·exact aHr f u l k λZ h₁=>by
   have:=ka n h₁;exact⟨rfl,λb _=>by rw[this.1],by rw[this.1];exact RQ _,this.2⟩
 rcases c with u|c
 ·obtain⟨Q,P,D,_⟩:=u;cases D
 exact bEb c z hgr hv p (r c) t A f n l k
end
section
open Go.Shelf
variable {P:Program} {w:C_} {base:Nat} {spare:Nat->Bool} {held:Bool} {t:RZ} {s:List UInt8} {p:List Wn} {b:Nat}
def bGl{H:Type}{enc:RZ×D_->H}{a:Nat}{cs:List D_}(h:Yf enc P w base spare held a t cs=A_ (.lit (.string s),p)):cs≠[]:=by
 cases a with
 |zero=>simp[Yf]at h
 |succ a=>
  unfold Yf at h;split at h
  all_goals first|(simp at h;done)|(simp;done)|skip
def bCi{H:Type}{enc:RZ×D_->H}{cs:List D_}{d:VN H}(h:Yf enc P w base spare held b t cs=A_ (.ptr d,p)):∃(a:J_) (e:RZ) (fuel':Nat) (f:List D_) (q:List Wn),cs=[.pointer (A_ a)]/\w.cells? base a (P.cellsOf e)=A_ f/\Yf enc P w base spare held fuel' e f=A_ (d,q):=by
 cases b with
 |zero=>simp[Yf]at h
 |succ b=>
  unfold Yf at h;split at h
  all_goals first|(simp at h;done)|skip
  ·obtain⟨x,c,i⟩:=Ul.1 h;obtain⟨f,h1,h2⟩:=TK.1 c;obtain⟨j,k⟩:=x;simp only[VQ,DataW.ptr.injEq]at i;obtain⟨rfl,_⟩:=i;exact⟨_,_,_,_,_,rfl,h1,h2⟩
  ·simp only at h;split at h
   ·obtain⟨x,_,c⟩:=TK.1 h;obtain⟨y,_,g⟩:=Ul.1 c;simp at g
   ·cases h
  ·split at h
   ·simp at h
   ·obtain⟨y,_,g⟩:=Ul.1 h;simp at g
   ·cases h
  ·split at h
   ·split at h
    ·obtain⟨x,_,c⟩:=TK.1 h;simp only at c;split at c
     ·simp at c
     ·cases c
    ·cases h
   ·cases h
def mapM_nil{α β:Type}{f:α->Option β}{l:List α}{x:β}{xs:List β}(h:l.mapM f=A_ (x::xs)):∃a,f a=A_ x:=by
 cases l with
 |nil=>simp at h
 |cons a l=>
  rw[List.mapM_cons]at h;obtain⟨y,h1,h2⟩:=TK.1 h;obtain⟨b,_,h3⟩:=TK.1 h2;have h3:A_ (y::b)=A_ (x::xs):=h3;simp only[Sk,List.cons.injEq]at h3;exact⟨a,h3.1▸h1⟩
def aLc{H:Type}{enc:RZ×D_->H}{cs:List D_}(h:Yf enc P w base spare held b t cs=A_ (.agg [.lit (.string s)],p)):cs≠[]:=by
 cases b with
 |zero=>simp[Yf]at h
 |succ b=>
  unfold Yf at h;split at h
  all_goals first|(simp at h;done)|(simp;done)|skip
  all_goals
   split at h
   ·obtain⟨x,e,c⟩:=Ul.1 h;rintro rfl;simp only[VQ,DataW.agg.injEq]at c;cases x with
    |nil=>simp at c
    |cons y l=>
     obtain⟨a,d⟩:=mapM_nil e;simp only[List.drop_nil,List.take_nil]at d;obtain⟨f,g⟩:=y;simp only[List.map_cons,List.cons.injEq]at c;rw[c.1.1]at d;exact bGl d rfl
   ·cases h
def aBq{ms:Array (String×RZ)}{cs:Array D_}{o:String}{i:List UInt8}(n:prog.underlying t=A_ (.interface ms))(l:Yf (λ_=>()) prog w 0 (λ_=>G_) E_ b t cs.toList=A_ (.iface o (.ptr (.agg [.lit (.string i)])),p)):∃(u:RZ) (v:D_) (a:J_),cs=#[.iface u v]/\(v=.pointer (A_ a)\/v=.agg #[.pointer (A_ a)])/\a.block<w.heap.size:=by
 obtain⟨_,u,v,e,_,hv⟩:=iface_of_trod n l;obtain⟨a,r,f',d,q,h1,h2,h3⟩:=bCi hv;have f:=aLc h3;refine⟨u,v,a,?_,?_,?_⟩
 ·apply YA;rw[e]
 ·have h1:v.cells=#[.pointer (A_ a)]:=YA h1;cases v<;>simp_all [Yx]
 ·obtain⟨_,g,k⟩:=World.cells?_some h2;have c:0<d.length:=List.length_pos_iff.2 f;have h0:=k 0 o7;rw[List.getElem?_eq_getElem c]at h0;have j:(a.add 0).block=a.block:=by unfold Addr.add;split<;>rfl
  rw[<-j];apply Classical.byContradiction;intro m;have:w.heap[(a.add 0).block]? = B_:=Te o7;simp[SS,this]at h0
def bB5(n p q:Nat)(hp:p<n)(b:q<n):∃xs:List Nat,xs.Nodup/\(∀x∈xs,7+1<=x/\x<n)/\(p<7+1\/7+1<=p/\p∈xs)/\(q<7+1\/7+1<=q/\q∈xs):=by
 by_cases h1:p<7+1
 ·by_cases h2:q<7+1
  ·exact⟨[],by simp,by simp,.inl h1,.inl h2⟩
  ·exact⟨[q],by simp,λx a=>by simp at a;omega,.inl h1,.inr ⟨by omega,by simp⟩⟩
 ·by_cases h2:q<7+1
  ·exact⟨[p],by simp,λx a=>by simp at a;omega,.inr ⟨by omega,by simp⟩,.inl h2⟩
  ·by_cases h3:q=p
   ·exact⟨[p],by simp,λx a=>by simp at a;omega,.inr ⟨by omega,by simp⟩,.inr ⟨by omega,by simp[h3]⟩⟩
   ·exact⟨[p,q],by simp;omega,λx a=>by simp at a;omega,.inr ⟨by omega,by simp⟩,.inr ⟨by omega,by simp⟩⟩
def aWf{cs:Array D_}(a:prog.buildable t=G_->Row.ok prog w .any 0 t cs)(h1:prog.buildable t=G_)(h2:((prog.cellTypes prog.depth t).map λts=>ts.all λu=>match prog.underlying u with|some (.int _)=>G_|_=>E_)=A_ G_):∀v∈cs,∃k n,v=.int k n:=by
 obtain⟨ts,e,_,h⟩:=a h1;rw[e]at h2;simp only[Option.map_some,Sk]at h2;intro v hv;obtain⟨i,hi,rfl⟩:=Zm.1 hv;obtain⟨u,b,hk⟩:=h i _ (Tf hi);have:=List.all_eq_true.1 h2 u (List.mem_of_getElem? b);unfold Cell.ok at hk;cases hun:prog.underlying u with
 |none=>rw[hun]at this;cases this
 |some d=>
  rw[hun]at this hk;cases d<;>first|(cases this;done)|skip
  generalize cs[i]=x at hk;cases x<;>first|exact⟨_,_,rfl⟩|exact hk.elim
end
section
open Go.Shelf Go.Rn
variable {w:C_} {t:RZ} {W:C_} {n:Nat} {xs:List Nat} {v:D_} {a:J_}
def aZa:List (String×VN Unit):=[("math/bits.deBruijn32tab",Rows.laid_math_bits_deBruijn32tab),("math/bits.deBruijn64tab",Rows.laid_math_bits_deBruijn64tab),("internal/strconv.uint64pow10",Rows.laid_internal_strconv_uint64pow10),("strconv.ErrRange",Rows.laid_strconv_ErrRange),("strconv.ErrSyntax",Rows.laid_strconv_ErrSyntax)]
def aPc:∃n b,(Rows.laid_strconv_ErrRange:VN Unit)=.iface n (.ptr (.agg [.lit (.string b)])):=⟨_,_,rfl⟩
def aPd:∃n b,(Rows.laid_strconv_ErrSyntax:VN Unit)=.iface n (.ptr (.agg [.lit (.string b)])):=⟨_,_,rfl⟩
def aJ2{a:String}{g:Nat}{cs b:Array D_}{f:Nat×Nat}(c:prog.globalNamed a=A_ g)(h:w.var? prog a=A_ cs)(k:w.heap[g]? = A_ (.cells b t f)):b=cs:=by
 unfold World.var? at h;rw[c]at h;simp only[Option.bind_some,k]at h;exact Uj h
def aZc(h:laidMetH prog Rows.manyWorkersRow.laid W):bE W∧(∃cs u v a,W.var? prog "strconv.ErrRange" = A_ cs∧cs=#[.iface u v]∧(v=.pointer (A_ a)∨v=.agg #[.pointer (A_ a)])∧a.block<W.heap.size)∧∃cs u v a,W.var? prog "strconv.ErrSyntax" = A_ cs∧cs=#[.iface u v]∧(v=.pointer (A_ a)∨v=.agg #[.pointer (A_ a)])∧a.block<W.heap.size:=by
 have i:laidMet prog aZa W/\handlesMet prog Hg W:=h;obtain⟨ps,hv,_⟩:=i.1;obtain⟨F,X,w,A,M,R,_,_,_,_,hv,_⟩:=hv;obtain⟨G,Y,x,B,N,S,_,_,_,_,hv,_⟩:=hv;obtain⟨H,Z,y,C,O,T,n,d,r,g,hv,_⟩:=hv;obtain⟨I,t4,c4,D,P,U,o,e,j,b,hv,_⟩:=hv;obtain⟨J,t5,z,E,Q,V,p,f,k,c,hv,_⟩:=hv;obtain rfl:=Uj (aCy.symm.trans n);obtain rfl:=Uj (LM.symm.trans o);obtain rfl:=Uj (LP.symm.trans p);obtain rfl:=Uj (bG1.symm.trans d);obtain rfl:=Uj (bG2.symm.trans e);obtain rfl:=Uj (bG3.symm.trans f);have q:laidMet prog [] W/\handlesMet prog Hg W:=⟨⟨[],rfl,List.nodup_nil,λ_ _ h=>by cases h⟩,i.2⟩;obtain⟨K,s,l⟩:=aPc;obtain⟨L,t,m⟩:=aPd;refine⟨⟨aSx q,bG4 ?_,aBp LP underlying24 k c,aBp LM underlying24 j b⟩,?_,?_⟩
 ·rw[bB8]at g;rw[r,<-Lib.cells_of_tab underlying240 underlying36 k7 k7 g]
 ·rw[l]at b;obtain⟨u,v,a,h1,h2,h3⟩:=aBq underlying24 b;exact⟨_,u,v,a,j,h1,h2,h3⟩
 ·rw[m]at c;obtain⟨u,v,a,h1,h2,h3⟩:=aBq underlying24 c;exact⟨_,u,v,a,k,h1,h2,h3⟩
noncomputable abbrev w0:C_:=(begin prog (λ_ _=>0) default).world
def Jf(a:W.ShapedOpen prog){g:Nat}{T:RZ}(b:g<prog.globals.size)(h:((w0.heap[g]?).bind Obj.row?).map (λr=>(r.1.size,r.2))=A_ (n,T)):∃cs,W.heap[g]? = A_ (.cells cs T)/\cs.size=n/\(prog.buildable T=G_->Row.ok prog W .any 0 T cs):=by
 obtain⟨⟨z,t⟩,h1,h2⟩:=Ul.1 h;simp only[VQ]at h2;obtain⟨rfl,rfl⟩:=h2;obtain⟨cs,k1,k2,k3⟩:=a.1 g z t b h1;exact⟨cs,k1,k2,k3⟩
def zR:prog.globals.size=7:=by kernel_rfl
def bC4:((w0.heap[1]?).bind Obj.row?).map (λr=>(r.1.size,r.2))=A_ (20,240):=by kernel_rfl
def r32:((w0.heap[5]?).bind Obj.row?).map (λr=>(r.1.size,r.2))=A_ (32,315):=by kernel_rfl
def r64:((w0.heap[6]?).bind Obj.row?).map (λr=>(r.1.size,r.2))=A_ (64,316):=by kernel_rfl
def bC3:((w0.heap[0]?).bind Obj.row?).map (λr=>(r.1.size,r.2))=A_ (1,3):=by kernel_rfl
def bC7:((w0.heap[2]?).bind Obj.row?).map (λr=>(r.1.size,r.2))=A_ (1,252):=by kernel_rfl
def bC5:((w0.heap[4]?).bind Obj.row?).map (λr=>(r.1.size,r.2))=A_ (1,24):=by kernel_rfl
def bC6:((w0.heap[3]?).bind Obj.row?).map (λr=>(r.1.size,r.2))=A_ (1,24):=by kernel_rfl
def aFi(h:v=.pointer (A_ a)\/v=.agg #[.pointer (A_ a)])(k:a.block<7+1\/7+1<=a.block/\a.block∈xs):Nm lim (7+1) xs v:=by
 rcases h with rfl|rfl
 ·exact Nb k
 ·exact Nm.agg λv hv=>by simp at hv;rw[hv];exact Nb k
def aZb(a:W.ShapedOpen prog)(s:laidMetH prog Rows.manyWorkersRow.laid W):∃xs,Rn.Ground lim (7+1) xs W/\bE W:=by
 obtain⟨hv,⟨c4,u4,J,m,A,rfl,C,E⟩,⟨G,u5,K,p,B,rfl,D,F⟩⟩:=aZc s;obtain⟨xs,w,x,y,z⟩:=bB5 W.heap.size m.block p.block E F
 have l:∃cs,W.heap[7]? = A_ (.cells cs 0)/\∀v∈cs,∃k n,v=.int k n:=by
  obtain⟨o,I,h1,h2,h3⟩:=a.2 7 (of_decide_eq_true k7) (of_decide_eq_true k7);have e:World.looseAt (7 - prog.globals.size)=E_:=by kernel_rfl
  rw[e]at h3;simp only[Bool.false_eq_true,if_false]at h3;subst h3;have e2:w0.heap[7]? = A_ (.cells ((Array.range prog.types.size).map λt=>.int .u64 (Int.ofNat t)) 0):=by kernel_rfl
  rw[show((begin prog (λ_ _=>0) default).world.heap[7]? = A_ o) from h2]at e2;refine⟨_,h1.trans e2,λv hv=>?_⟩;obtain⟨t,_,rfl⟩:=Array.mem_map.1 hv;exact⟨_,_,rfl⟩
 have num:∀{g n:Nat} {T:RZ},g<prog.globals.size->((w0.heap[g]?).bind Obj.row?).map (λr=>(r.1.size,r.2))=A_ (n,T)->prog.buildable T=G_->((prog.cellTypes prog.depth T).map λts=>ts.all λu=>match prog.underlying u with|some (.int _)=>G_|_=>E_)=A_ G_->∃c e f,W.heap[g]? = A_ (.cells c e f)/\f.1=f.2/\∀v∈c,Nm lim (7+1) xs v:=λh1 h2 h3 q=>by
  obtain⟨cs,k1,k2,k3⟩:=Jf a h1 h2;exact⟨cs,_,_,k1,rfl,λv hv=>by obtain⟨k,n,rfl⟩:=aWf k3 h3 q v hv;exact aFj k n⟩
 refine⟨xs,⟨λb H=>?_,?_,x,w⟩,hv⟩
 ·obtain rfl|rfl|rfl|rfl|rfl|rfl|rfl|rfl:b=1\/b=5\/b=6\/b=0\/b=2\/b=4\/b=3\/b=7:=by omega
  ·exact num (by rw[zR];decide) bC4 k7 k7
  ·exact num (by rw[zR];decide) r32 k7 k7
  ·exact num (by rw[zR];decide) r64 k7 k7
  ·exact num (by rw[zR];decide) bC3 k7 k7
  ·obtain⟨cs,k1,k2,_⟩:=Jf a (by rw[zR];decide) bC7;refine⟨cs,_,_,k1,rfl,λv d=>?_⟩;have j:=hv.et;unfold jD at j;simp only[SS,k1]at j;obtain⟨i,hi,rfl⟩:=Zm.1 d;obtain rfl:i=0:=by omega
   simp[Tf hi]at j;rw[j];exact(Nm.agg λv hv=>by simp at hv;rw[hv];exact Nb (.inl d7)).iface _
  ·obtain⟨cs,k1,_,_⟩:=Jf a (by rw[zR];decide) bC5;obtain rfl:=aJ2 LM A k1;exact⟨_,_,_,k1,rfl,λv d=>by simp at d;rw[d];exact(aFi C y).iface _⟩
  ·obtain⟨cs,k1,_,_⟩:=Jf a (by rw[zR];decide) bC6;obtain rfl:=aJ2 LP B k1;exact⟨_,_,_,k1,rfl,λv d=>by simp at d;rw[d];exact(aFi D z).iface _⟩
  ·obtain⟨cs,k1,k2⟩:=l;exact⟨cs,_,_,k1,rfl,λv d=>by obtain⟨k,n,rfl⟩:=k2 v d;exact aFj k n⟩
 ·obtain⟨cs,k1,_⟩:=l;exact(Array.getElem?_eq_some_iff.1 k1).1
end
section
open Go.ChangeShapes Go.WideShapes Go.ChangeAt
variable {W:C_} {cap:Nat}
def aN0:prog.cellsOf 9=1:=by kernel_rfl
def bGr{H:Type}{enc:RZ×D_->H}{g:Option J_}{len:Nat}{d:VN H}{ps:List Wn}(h:DataW.Trod enc prog W 0 (λ_=>G_) G_ 22 (.slice g len cap) d ps):
  ∃tx:Nat->ByteArray,(∀j,j<len->∃a,g=A_ a/\W.cell? (a.add j)=A_ (.string (tx j)))/\(0<len->∀a,g=A_ a->a.block<W.heap.size):=by
 obtain⟨l,r⟩:=h;rcases Deep.open_slice1 underlying22 aN0 r with⟨b,_⟩|⟨a,o,k,m,n,V,D,P,b,_,u,v,f,_,hi⟩
 ·simp[Yx]at b;obtain⟨rfl,rfl,rfl⟩:=b;exact⟨λ_=>⟨#[]⟩,λj i=>by omega,λh=>by omega⟩
 simp[Yx]at b;obtain⟨rfl,rfl,rfl⟩:=b;simp only[if_true]at f;subst f
 have c:∀j,j<len->∃s,V j=.string s:=λj i=>by
  obtain⟨s,e,_⟩:=DataW.trod_string underlying9 (hi j o7).2;exact⟨s,by simpa using e⟩
 refine⟨λj=>match V j with| .string s=>s|_=>⟨#[]⟩,λj i=>⟨a,rfl,?_⟩,λh0 a' p=>?_⟩
 ·obtain⟨s,e⟩:=c j i;rw[(hi j o7).1,e];simp only[e]
 ·cases p;have h1:=(hi 0 o7).1;have q:(a.add 0).block=a.block:=by unfold Addr.add;split<;>rfl
  rw[<-q];apply Classical.byContradiction;intro t;have:W.heap[(a.add 0).block]? = B_:=Te o7;simp[SS,this]at h1
end
end Go.Proofs.YtpodibeogglplaaGreatDoor
namespace Go.Proofs.YtpodibeogglplaaGreatDoor.manyWorkers
section
open Go.ChangeShapes Go.WideShapes Go.ChangeAt Go.Deep
def aI5(d:VN Unit):Array D_:=match d with
 | .agg l=>(l.map λx=>match x with| .lit (.int k n)=>SX k n|_=>undef).toArray
 |_=>#[]
def PG(w:C_):C_:=
 let w1:=bIs w
 let n:=w1.heap.size
 { w1 with heap:=(((((w1.heap.modify 1 fun
  | .cells _ t f=>.cells (Lib.pow10Tab.map λz=>SX .u64 z).toArray t f
  |o=>o).modify 5 fun
  | .cells _ t f=>.cells (aI5 Rows.laid_math_bits_deBruijn32tab) t f
  |o=>o).modify 6 fun
  | .cells _ t f=>.cells (aI5 Rows.laid_math_bits_deBruijn64tab) t f
  |o=>o).modify 4 fun
  | .cells _ t f=>.cells #[.iface 312 (.pointer (A_ ⟨n,0,B_⟩))] t f
  |o=>o).modify 3 fun
  | .cells _ t f=>.cells #[.iface 312 (.pointer (A_ ⟨n+1,0,B_⟩))] t f
  |o=>o)++#[.cells #[.string ⟨#[118,97,108,117,101,32,111,117,116,32,111,102,32,114,97,110,103,101]⟩] 314 (0,0),.cells #[.string ⟨#[105,110,118,97,108,105,100,32,115,121,110,116,97,120]⟩] 314 (0,0)] }
def aWs:laidOutB prog=G_:=by kernel_rfl
def aWt(os:Os):laidMetH prog Rows.manyWorkersRow.laid ((PG (World.holding prog os ⟨#[],#[],[]⟩)).forCall (λ_ _=>0) ⟨#[],#[.slice B_ 0 0,.int .i64 0,.int .i64 0],[]⟩).memory:=
 laidMetH_of_parts (laidMet_of_run' 12 k7 k7) k7
def bDj(os:Os){H:Type}(enc:RZ×D_->H):∃places,DataW.whole enc prog ((PG (World.holding prog os ⟨#[],#[],[]⟩)).forCall (λ_ _=>0) ⟨#[],#[.slice B_ 0 0,.int .i64 0,.int .i64 0],[]⟩).memory f3.params.toList Rows.manyWorkersSpec.vars E_ #[f_ B_ 0 0,SX .i64 0,SX .i64 0].toList 8=A_ ([.nil,.lit (.int .i64 0),.lit (.int .i64 0)],[],places):=
 ⟨[],by kernel_rfl⟩
def aOl(H:Type)(enc:RZ×D_->H)(W:C_)(e:Nat)(args:Array D_)(u gs:List (VN H))(c:List Wn)(a:∀(j:Nat) t v,f3.params[j]? = A_ t->args[j]? = A_ v->Value.okWide prog W .any e t v)(A:DataW.Whole enc prog f3.params.toList Rows.manyWorkersSpec.vars E_ W args.toList u gs c)(k:W.ShapedOpen prog)(K:laidMetH prog Rows.manyWorkersRow.laid W):
  ∃N last o w' t',runNT prog (N+1) (Conc.solo (Conc.G (Ur prog 3 args .normal) []) W) #[]=(.ended o w',t')/\runN prog N (Conc.solo (Conc.G (Ur prog 3 args .normal) []) W)=.next last/\step prog last=.ended o w'/\
   Conc.Good prog (λv C=>Rows.manyWorkersSpec.post enc prog f3 E_ G_ E_ E_ W.blind args v C.blind) last o w' t':=by
 have d:=A;obtain⟨p,q,f,hV,rfl,M,O⟩:=A;have w:DataW.TrodAll enc prog W 0 (λ_=>G_) G_ f3.params.toList args.toList u p:=f;rw[params3]at w a;obtain⟨v0,V,d0,D,p0,q0,g,rfl,rfl,h0,S⟩:=trodAll_cons w;obtain⟨v1,X,Z,E,p1,q1,rfl,rfl,rfl,h1,T⟩:=trodAll_cons S;obtain⟨B,Y,d2,F,p2,q2,rfl,rfl,rfl,h2,U⟩:=trodAll_cons T;obtain⟨rfl,rfl,rfl⟩:=trodAll_nil U;obtain rfl:args=#[v0,v1,B]:=by cases args;simp_all
 obtain⟨rfl,rfl⟩:=trodVars_none hV;obtain⟨s,len,cap,rfl⟩:=okWide_slice underlying22 (a 0 22 v0 rfl rfl);obtain⟨x,rfl,rfl,rfl,w1⟩:=open_int underlying3 (a 1 3 v1 rfl rfl) h1;obtain⟨y,rfl,rfl,rfl,w2⟩:=open_int underlying3 (a 2 3 B rfl rfl) h2;clear f;simp only[List.append_nil]at d;have i:∀x∈p0,x.block<W.heap.size:=λx Q=>by simpa using d.lt x Q
 obtain⟨tx,n,l⟩:=bGr h0;obtain⟨xs,hgr,hv⟩:=aZb k K;obtain⟨N,last,o,w',t',e1,e2,I,J⟩:=bHi (m:=len) (cap:=cap) (src:=s) (x:=x) (y:=y) (tx:=tx) hgr hv l (λ_=>n);refine⟨N,last,o,w',t',e1,e2,I,J.mono λv hp=>?_⟩;obtain⟨rfl,L,P,b⟩:=hp;have b:(w'.os,w'.output)=(W.os,W.output):=b;simp only[VQ]at b;have z:Below W.heap.size W { w' with tape:=W.tape }:=⟨b.1,rfl,b.2,P,L⟩
 have r:Rows.manyWorkersSpec.post enc prog f3 E_ G_ E_ E_ W #[.slice s len cap,.int .i64 x,.int .i64 y] (.bool G_) { w' with tape:=W.tape }:=by
  refine⟨_,_,_,[],p0++([]++([]++[])),[],d,?_,?_,?_,z.frame _,λh=>by cases h⟩
  ·exact trodAll_cons_mk (shut_bool underlying4 _) trodAll_mk0
  ·exact trodAll_cons_mk (Below.trod aWs k7 (of_decide_eq_true k7) h0 z i) (trodAll_cons_mk (shut_int underlying3 w1) (trodAll_cons_mk (shut_int underlying3 w2) trodAll_mk0))
  ·rfl
 have R:=ChangeSpec.post_blind r;exact R
def lifted(os:Os)(a:os.Started)(H:Type)(enc:RZ×D_->H):
  ReturnsInLeavingWide {} checked os 3 .any ((OpenSpec.ofChange Rows.manyWorkersSpec).preRow enc prog f3 Rows.manyWorkersRow.domain E_ Rows.manyWorkersRow.laid) (Rows.manyWorkersSpec.post enc prog f3 E_ G_ E_ E_):=by
 obtain⟨g,r⟩:=bDj os enc
 refine returnsInLeavingWide_of_good (C:=checked) own a
  (witness_row_at (enc:=enc) (C:=checked) (s:=OpenSpec.ofChange Rows.manyWorkersSpec) E_ (PG (World.holding prog os ⟨#[],#[],[]⟩)) #[.slice B_ 0 0,.int .i64 0,.int .i64 0] rfl k7 k7 k7
   (OpenSpec.preRow_of_cond 8 r k7 (λk hk=>by cases hk) k7 (aWt os))) ?_
 intro w tape i _ m _ l d _;obtain⟨_,_,_,j,c,_,_,_,_,f⟩:=l;have e:j=f3:=Uj (c.symm.trans func3);subst e;obtain⟨⟨hp,p⟩,u⟩:=d;obtain⟨o,gs,b,q,t,hk⟩:=OpenSpec.pre_parts hp;have n:=DataW.Whole.of_heap (w':=w.forCall tape i) r7 q;exact aOl H enc (w.forCall tape i) w.heap.size i.args o gs b f n m (p.of_heap r7)
end
section
open Go.ChangeShapes
def k2:laidOutB Tryz.pinned.checked.prog=G_:=by kernel_rfl
def k3:mapsRowed Tryz.pinned.checked.prog=G_:=by kernel_rfl
def k10:(Rows.manyWorkersRow.inPlace == Tryz.pinned.checked.prog.inPlace 3)=G_:=by kernel_rfl
def k11:(Rows.manyWorkersRow.unfollowed == Tryz.pinned.checked.prog.unfollowed 3)=G_:=by kernel_rfl
def k12:(Rows.manyWorkersRow.recurses == Tryz.pinned.checked.prog.recurses 3)=G_:=by kernel_rfl
def k13:(Rows.manyWorkersRow.named == Tryz.pinned.checked.prog.varsNamed 3)=G_:=by kernel_rfl
def k23:(Rows.manyWorkersRow.plainKeys == Tryz.pinned.checked.prog.plainKeys)=G_:=by kernel_rfl
def k25:Tryz.pinned.checked.prog.stopsHeard=G_:=by kernel_rfl
def k26:Tryz.pinned.checked.prog.mayEnter=G_:=by kernel_rfl
def k27:(Rows.manyWorkersRow.lifted == Tryz.pinned.checked.prog.liftsFinal)=G_:=by kernel_rfl
def k28:(Tryz.pinned.checked.prog.make == A_ Rows.manyWorkersRow.make)=G_:=by kernel_rfl
def closed:joinedFacts Tryz.pinned.checked.prog 3 f3 Rows.manyWorkersSpec Rows.manyWorkersRow=G_:=by
 unfold joinedFacts;refine SH.2 ⟨?_,by kernel_rfl⟩;refine SH.2 ⟨?_,by kernel_rfl⟩;refine SH.2 ⟨?_,by kernel_rfl⟩;refine SH.2 ⟨?_,by kernel_rfl⟩;refine SH.2 ⟨?_,k28⟩;refine SH.2 ⟨?_,k27⟩;refine SH.2 ⟨?_,k26⟩;refine SH.2 ⟨?_,k25⟩;refine SH.2 ⟨?_,by kernel_rfl⟩;refine SH.2 ⟨?_,k23⟩;refine SH.2 ⟨?_,by kernel_rfl⟩;refine SH.2 ⟨?_,by kernel_rfl⟩;refine SH.2 ⟨?_,by kernel_rfl⟩;refine SH.2 ⟨?_,by kernel_rfl⟩;refine SH.2 ⟨?_,by kernel_rfl⟩;refine SH.2 ⟨?_,by kernel_rfl⟩;refine SH.2 ⟨?_,by kernel_rfl⟩;refine SH.2 ⟨?_,by kernel_rfl⟩;refine SH.2 ⟨?_,by kernel_rfl⟩;refine SH.2 ⟨?_,k13⟩;refine SH.2 ⟨?_,k12⟩;refine SH.2 ⟨?_,k11⟩;refine SH.2 ⟨?_,k10⟩;refine SH.2 ⟨?_,by kernel_rfl⟩;refine SH.2 ⟨?_,by kernel_rfl⟩;refine SH.2 ⟨?_,by kernel_rfl⟩;refine SH.2 ⟨?_,by kernel_rfl⟩;refine SH.2 ⟨?_,by kernel_rfl⟩;refine SH.2 ⟨?_,by kernel_rfl⟩;refine SH.2 ⟨?_,k3⟩;refine SH.2 ⟨?_,k2⟩
 kernel_rfl
def named:Tryz.pinned.checked.prog.funcNamed Rows.manyWorkersRow.func=A_ 3:=by kernel_rfl
end
end Go.Proofs.YtpodibeogglplaaGreatDoor.manyWorkers
