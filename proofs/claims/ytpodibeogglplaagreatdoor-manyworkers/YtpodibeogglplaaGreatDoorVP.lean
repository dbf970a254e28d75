/- ManyWorkers -/
import Derived.Test.YtpodibeogglplaaGreatDoorVO
open Array renaming getElem?_setIfInBounds_ne->Sg, getElem?_setIfInBounds_self_of_lt->Xo, mem_of_getElem?->Ut, getElem?_map->VL, getElem?_eq_some_iff->Sb, getElem?_push_lt->j_, getElem?_eq_getElem->Tf, mem_iff_getElem->Zm
open Bool renaming false->E_, true->G_
open Classical renaming byContradiction->SL, choose->ZJ, choose_spec->Xh
open Go renaming Program->TB, Goroutine->H_, Value->D_, World->C_, Event->K_, FuncId->XG, deafBehind->UU
open Go.Conc renaming served->Wy, touch_of->YM, getElem?_append_cases->TH, touchAt_of->ZG, aside_setCell->TQ, semEvents->YL, Deaf_other->X_, touchAt->W_, mem_ofEvents->VG
open Go.Conc.Goes renaming cases->VE
open Go.MemAct renaming ofEvent->Td, touch?->VH
open Go.MemOp renaming ofEvents->Uw
open Go.Mw.Rk renaming nat->ZA
open Nat renaming lt_of_lt_of_le->Sn, le_refl->RQ, zero_le->Sv, eq_zero_or_pos->Vu, lt_or_ge->Us
open Option renaming some->A_, none->B_, map_eq_some_iff->Ul
open Option.some renaming inj->Uj, injEq->Sk
set_option linter.all false
set_option maxHeartbeats 1000000
namespace Go.Mw
section
open Go.Rn hiding KK
open Go.Conc hiding served
open Go.ConcR (KK WgAt stA smA rd wr mk Payload again_blocked g_of_ofEvents loc_of_ofEvent ofEvent_loc_mark Bk ofEvent_mk deafBehind_cons deafBehind_one)
open Go.ConcN (sumTo sumTo_upd sumTo_congr upd upd_same upd_ne sumTo_le le_sumTo RelBy RelBy.new RelBy.book bk_cell Deaf_absent)
def plus(J:Nat->Prop)(j:Nat)(x:Nat):Prop:=J x\/x=j
end
section
open Go.Rn hiding KK
open Go.Conc hiding served
open Go.ConcR (KK WgAt stA smA rd wr mk Payload again_blocked g_of_ofEvents loc_of_ofEvent ofEvent_loc_mark Bk ofEvent_mk deafBehind_cons deafBehind_one)
open Go.ConcN (sumTo sumTo_upd sumTo_congr upd upd_same upd_ne sumTo_le le_sumTo RelBy RelBy.new RelBy.book bk_cell Deaf_absent)
variable (P:TB) (p:Place) (AtR:H_->Prop) (z:D_) (val job:Nat->D_) [Payload]
structure Work:Prop where
 run:∀g,AtR g->g.status=.running
 recv:∀g w,AtR g->GI p w->stepG P E_ g w=.comm (core g) #[rcase p.Ch z] G_ (.recv G_) w #[]
 again:∀g,AtR g->AtR { sW p z g with status:=.running }
 got:∀g J S w j,AtR g->GI p w->j<p.m->Done p val J w->(∀b,S b->p.Low<=b)->∃r,Tree P E_ (Rl p (plus J j)) (DW p (plus J j)) (iy p AtR val (plus J j)) r S (Wy (core g) (.tuple #[job j,.bool G_])) w
 shut:∀g J S w,AtR g->GI p w->Done p val J w->(∀b,S b->p.Low<=b)->∃r,Tree P E_ (Rl p J) (DW p J) (CK P p val J) r S (Wy (core g) (.tuple #[z,.bool E_])) w
end
section
open Go.Rn hiding KK
open Go.Conc hiding served
open Go.ConcR (KK WgAt stA smA rd wr mk Payload again_blocked g_of_ofEvents loc_of_ofEvent ofEvent_loc_mark Bk ofEvent_mk deafBehind_cons deafBehind_one)
open Go.ConcN (sumTo sumTo_upd sumTo_congr upd upd_same upd_ne sumTo_le le_sumTo RelBy RelBy.new RelBy.book bk_cell Deaf_absent)
variable {P:TB} {p:Place} {AtR:H_->Prop} {z:D_} {val:Nat->D_} [Payload] {e n W:Nat} {gs gs':Array H_} {w w':C_} {sl:Option (Nat×Nat)} {D:Nat->WG} {aS:H_->C_->Prop} {job:Nat->D_} {Fin Anch:H_->C_->Prop} {tag tag':Tag} {f f' d0:Nat} {a a':H_} {t u:Trace} {st sm:Int} {cl:Bool}
variable {i:Nat} {d':WG} {r:Nat} {g:H_} {x:Touch} {B:Nat} {es:Array K_} {q:Nat}
def zB(d s r:Nat)(cl:Bool)(b:Nat)(a:b≠p.Ch):((w.at d).setChan p.Ch 0 #[] cl s r E_).heap[b]? = w.heap[b]? :=by
 show(w.heap.setIfInBounds p.Ch _)[b]? = _;rw[Sg (λe=>a e.symm)]
def Bg(d s r:Nat)(cl:Bool):((w.at d).setChan p.Ch 0 #[] cl s r E_).heap.size=w.heap.size:=by
 show(w.heap.setIfInBounds p.Ch _).size=_;simp
def Dh(a:GI p w)(d s r:Nat)(cl:Bool):((w.at d).setChan p.Ch 0 #[] cl s r E_).heap[p.Ch]? = A_ (.chan 0 #[] cl s r E_):=by
 show(w.heap.setIfInBounds p.Ch _)[p.Ch]? = _;rw[Xo (Sn p.ch a.low)]
def Di(a:GI p w)(d s r:Nat)(cl:Bool):GI p ((w.at d).setChan p.Ch 0 #[] cl s r E_):=by
 obtain⟨st,sm,h1⟩:=a.wg;obtain⟨cs,h2,h3⟩:=a.an
 exact⟨⟨st,sm,(zB d s r cl _ p.gc).trans h1⟩,⟨cl,s,r,Dh a d s r cl⟩,⟨cs,(zB d s r cl _ (λe=>p.ca e.symm)).trans h2,h3⟩,by rw[Bg];exact a.low,
  p.yu _ _ (λb c=>zB d s r cl b c.2.2.1) (by rw[Bg];exact RQ _) rfl a.fx⟩
def KG{J S:Nat->Prop}(e:GI p w)(d s r:Nat)(cl:Bool)(a:∀b,S b->p.Low<=b):Rl p J S w ((w.at d).setChan p.Ch 0 #[] cl s r E_):=
 .Ed (Di e d s r cl) (.inr rfl) (λb c=>zB d s r cl b c) (Bg d s r cl) rfl a
def Mode.turn(f:e<=i)(d:i<n)(h:(D i).stage=9\/(D i).stage=7\/(D i).stage=6)(j:d'.stage=7\/d'.stage=6\/d'.stage=5)(c:Mode e n W D tag st sm G_):Mode e n W (upd D i d') tag st sm G_:=by
 have v:Vc n (upd D i d')=Vc n D:=by
  have:=sumTo_upd D d' cnt d;have e1:cnt d'=1:=by unfold cnt;rw[RF o7]
  have e2:cnt (D i)=1:=by unfold cnt;rw[RF o7]
  unfold Vc;omega
 have s:Shut e n D->Shut e n (upd D i d'):=λx k a b=>by
  by_cases hk:k=i
  ·subst hk;rw[upd_same];omega
  ·rw[upd_ne _ _ hk];exact x k a b
 have q:Quit e n D->False:=λx=>by have:=x i f d;omega
 have g:∀b',jm e n D b' st sm->jm e n (upd D i d') b' st sm:=λb' x=>by
  cases x with
  |reg h1 h2=>rw[<-v];exact .reg (s h1) (by rw[v];exact h2)
  |last l h1 h2 h3 h4=>
   exfalso
   by_cases hk:i=l
   ·subst hk;omega
   ·have:=h4 i f d hk;omega
  |sema h1=>exact(q h1).elim
 cases tag<;>simp only[Mode,v]at c⊢
 case kd=>exact⟨c.1,c.2.1,s c.2.2.1,c.2.2.2⟩
 case anch=>exact⟨c.1,c.2.1,s c.2.2.1,c.2.2.2⟩
 case w1=>exact⟨c.1,c.2.1,s c.2.2.1,c.2.2.2⟩
 case w2=>exact⟨c.1,c.2.1,s c.2.2.1,c.2.2.2⟩
 case wm=>exact⟨c.1,c.2.1,g _ c.2.2⟩
 case w3=>exact⟨c.1,c.2.1,g _ c.2.2⟩
 case blk=>exact⟨c.1,c.2.1,g _ c.2.2⟩
 case w4=>exact(q c.2.2.1).elim
 case ke=>exact(q c.2.2.1).elim
 case acq=>exact(q c.2.2.1).elim
 all_goals exact absurd c.1 s7
def Oy(a:r<=p.m)(h:vL P p job Anch r g w):∃f,CS P p W aS job Fin Anch (.snd r) f 0 g w:=by
 cases r with
 |zero=>obtain⟨k,h⟩:=h;exact⟨k,.cls h⟩
 |succ r=>obtain⟨k,h⟩:=h;exact⟨k,.snd a h⟩
def bDn(hW:Work P p AtR z val job)(a8:∀g w,Anch g w->g.status=.running)(L:gs[0]? = A_ a)(H:CS P p W aS job Fin Anch tag f d0 a w)(l:Wo P p AtR z val e n gs w D (Hd p.m tag))(R:Tr p e n D d0 (Hd p.m tag) w.heap.size t)(T:WgAt p.ty p.Wg w st sm)(a9:gU p cl w)(c:Mode e n W D tag st sm cl)(A:e<=i)(q:i<n)(hg:gs[i]? = A_ g)(h9:(D i).stage=9)(M:(D i).deaf=0)(hR:AtR g)(N:Done p val (D i).J w):
  ∃m₁ ops μ',runT P (crowd gs w sl) i=(.next m₁,ops)/\Mu.Lt μ' ⟨phi W p.m (Vc n D) tag+Sm n D,n,λk=>(D k).rk,f⟩/\Inv P p AtR z val W aS job Fin Anch e μ' m₁ (t++ops):=by
 have b7:=l.sep.pos;have b1:(i == 0)=E_:=by simp;omega
 have B:stepG P (i == 0) g w=.comm (core g) #[rcase p.Ch z] G_ (.recv G_) w #[]:=by rw[b1];exact hW.recv g w hR l.gi
 obtain⟨s,r,X⟩:=a9;have E:i<gs.size:=by rw[l.size];exact q
 have G:∀k b,e<=k->k<n->(D k).S b->p.Low<=b:=λk b x y hb=>l.sep.low k b x y hb
 have I:=aZu hW.run a8 L H l i;cases cl with
 |true=>
  have hp:partners (gs.setIfInBounds i ph) p.Ch G_=[]:=partners_nil λj x V=>by
   apply SL;intro ho;obtain⟨_,_,r,rfl⟩:=I j x V ho;exact absurd c.1 s7
  have u:=crowd_recv_closed (sl:=sl) hg B X hp;rw[finishComm_recv]at u;obtain⟨rk,C⟩:=hW.shut g (D i).J (D i).S w hR l.gi N (G i · A q);have e2:=sumTo_upd D (⟨7,rk,0,(D i).J,(D i).S⟩:WG) WG.stage q;have e1:=sumTo_upd D (⟨7,rk,0,(D i).J,(D i).S⟩:WG) cnt q;have c1:cnt (⟨7,rk,0,(D i).J,(D i).S⟩:WG)=1:=rfl;have c2:cnt (D i)=1:=by unfold cnt;rw[RF o7]
  have s1:WG.stage (⟨7,rk,0,(D i).J,(D i).S⟩:WG)=7:=rfl
  refine⟨_,_,_,u,?_,FM (d':=⟨7,rk,0,(D i).J,(D i).S⟩) l R A q (by simp[l.size]) (a':=a) ?_ (by simp[E];rfl) (λk k0 kn hk=>?_) H (λk ke kn hk=>.refl l.gi) l.gi (.fin rfl rfl C) rfl (λj=>by simp) (λ_ h=>h) M.symm s7 (λh=>by simp only at h;omega) rfl (λop v=>?_) T ⟨s,r,X⟩
   (c.turn A q (.inl h9) (.inl rfl))⟩
  ·refine .a ?_;simp only;have ev:Vc n (upd D i ⟨7,rk,0,(D i).J,(D i).S⟩)=Vc n D:=by unfold Vc;omega
   rw[ev];unfold Sm;omega
  ·rw[Sg o7];exact L
  ·rw[Sg (λe=>hk e.symm)]
  ·simp only[Uw]at v;simp at v;subst v;exact⟨q,rfl,Sn p.ch l.gi.low,λm h=>by cases h⟩
 |false=>
  by_cases O:∃r,tag=.gY r
  ·
   obtain⟨r0,rfl⟩:=O;cases H with
   |@gY r1 g0 _ z0 hr1 hnext=>
    have a5:∀j k,(j,k)∈partners (gs.setIfInBounds i ph) p.Ch G_->k=0/\j≠i/\∃gj vj zj U,gs[j]? = A_ (parked gj #[scase p.Ch vj zj] U):=by
     intro j k b4;obtain⟨x,V,hk⟩:=mem_partners.1 b4;obtain⟨rfl,a4,_⟩:=I j x V (λh=>by rw[h]at hk;cases hk);rcases getElem?_stand gs i 0 x V with⟨h,_⟩|⟨_,a7⟩
     ·omega
     ·rw[L]at a7;cases a7;rw[offersAt_parked_send]at hk;simp at hk;exact⟨hk,λh=>a4 h.symm,_,_,_,_,L⟩
    have b6:partners (gs.setIfInBounds i ph) p.Ch G_≠[]:=by
     intro h;have:(0,0)∈partners (gs.setIfInBounds i ph) p.Ch G_:=mem_partners.2 ⟨_,by rw[Sg o7];exact L,by rw[offersAt_parked_send];simp⟩;rw[h]at this;cases this
    obtain⟨j,gj,vj,zj,U,d,b3,hj,u⟩:=crowd_recv_meets_some hg B X b6 a5
    have b2:j=0:=by
     obtain⟨h,_⟩:=I j _ (stand_get b3 hj) (by rw[offersAt_parked_send];simp);exact h
    subst b2;rw[L]at hj;have hq:=Uj hj;have q1:U=.send:=by have:=RJ (λx:H_=>x.offers) hq;simp[parked]at this;exact this.2.symm
    have q2:vj=job (p.m - (r1+1)):=by have:=RJ (λx:H_=>x.offers) hq;simp[parked,scase]at this;exact this.1.1.symm
    have q3:Wy gj undef=Wy (core g0) undef:=by
     have a1:=RJ (λx:H_=>x.frame) hq;have a2:=RJ (λx:H_=>x.callers) hq;have a3:=RJ (λx:H_=>x.dying) hq;simp only[parked,core]at a1 a2 a3;simp[Wy,core,a1,a2,a3]
    subst q1 q2;rw[finishComm_recv,finishComm_send,q3]at u;have b5:p.m - (r1+1)<p.m:=by omega
    have K:=Di l.gi d (s+1) (r+1) E_;have Q:∀J S:Nat->Prop,(∀b,S b->p.Low<=b)->Rl p J S w ((w.at d).setChan p.Ch 0 #[] E_ (s+1) (r+1) E_):=λJ S hS=>KG l.gi d (s+1) (r+1) E_ hS
    have a0:=N.rely (Q _ (D i).S (G i · A q));obtain⟨rk,C⟩:=hW.got g (D i).J (D i).S _ (p.m - (r1+1)) hR K b5 a0 (G i · A q);obtain⟨f1,Z⟩:=Oy (aS:=aS) (Fin:=Fin) o7 (hnext _ (Q _ _ (λ_ h=>h.elim)));have e2:=sumTo_upd D (⟨9,rk,0,plus (D i).J (p.m - (r1+1)),(D i).S⟩:WG) WG.stage q;have e1:=sumTo_upd D (⟨9,rk,0,plus (D i).J (p.m - (r1+1)),(D i).S⟩:WG) cnt q;have s1:WG.stage (⟨9,rk,0,plus (D i).J (p.m - (r1+1)),(D i).S⟩:WG)=9:=rfl;have a6:∀k,k<n->(upd D i (⟨9,rk,0,plus (D i).J (p.m - (r1+1)),(D i).S⟩:WG) k).stage=(D k).stage:=ES h9.symm
    refine⟨_,_,_,u,?_,FM (tag':=.snd r1) (d':=⟨9,rk,0,plus (D i).J (p.m - (r1+1)),(D i).S⟩) l R A q (by simp[l.size]) ?_ (by simp[E];rfl) (λk k0 kn hk=>?_) Z (λk ke kn hk=>Q _ _ (G k · ke kn)) K (.walk rfl rfl C) rfl (λj=>?_) (λj h=>?_) M.symm s7 (λh=>by simp only at h;omega) (Bg ..) (λop v=>?_)
     ((zB d _ _ _ _ p.gc).trans T) ⟨_,_,Dh l.gi d _ _ _⟩ ?_⟩
    ·refine .a ?_;simp only;rw[JE a6];unfold Sm;simp only[phi];omega
    ·rw[Sg o7];simp[show 0<gs.size by omega]
    ·rw[Sg (λe=>hk e.symm),Sg o7]
    ·simp only[plus,Hd,left];constructor
     ·rintro(h|rfl)
      ·exact .inl h
      ·right;omega
     ·rintro(h|⟨h1,h2⟩)
      ·exact .inl h
      ·right;omega
    ·simp only[Hd,left]at h⊢;omega
    ·simp only[Uw]at v;simp at v;have b0:=Sn p.ch l.gi.low;rcases v with rfl|rfl|rfl|rfl<;>exact⟨by first|exact q|(show 0<n;omega),rfl,b0,λm h=>by cases h⟩
    ·have F:=c;simp only[Mode]at F⊢;exact⟨F.1,F.2.1,λk ke kn=>.inl (by rw[a6 k kn];exact F.2.2.1 k ke kn),F.2.2.2⟩
  ·
   have hp:partners (gs.setIfInBounds i ph) p.Ch G_=[]:=partners_nil λj x V=>by
    apply SL;intro ho;exact O (I j x V ho).2.2
   have u:=crowd_waits (sl:=sl) hg B (λcc Y=>by simp at Y;subst Y;exact ways_recv_none X hp);have e2:=sumTo_upd D (⟨8,.zero,0,(D i).J,(D i).S⟩:WG) WG.stage q;have e1:=sumTo_upd D (⟨8,.zero,0,(D i).J,(D i).S⟩:WG) cnt q;have c1:cnt (⟨8,.zero,0,(D i).J,(D i).S⟩:WG)=1:=rfl;have c2:cnt (D i)=1:=by unfold cnt;rw[RF o7]
   have s1:WG.stage (⟨8,.zero,0,(D i).J,(D i).S⟩:WG)=8:=rfl;have ev:Vc n (upd D i ⟨8,.zero,0,(D i).J,(D i).S⟩)=Vc n D:=by unfold Vc;omega
   refine⟨_,_,_,u,?_,FM (d':=⟨8,.zero,0,(D i).J,(D i).S⟩) l R A q (by simp[l.size]) (a':=a) (f':=f) ?_ (by simp[E];rfl) (λk k0 kn hk=>?_) H (λk ke kn hk=>.refl l.gi) l.gi (.uj rfl rfl hR N) rfl (λj=>by simp) (λ_ h=>h) M.symm s7 (λh=>by simp only at h;omega) rfl (λop v=>?_) T ⟨s,r,X⟩ ?_⟩
   ·refine .a ?_;simp only;rw[ev];unfold Sm;omega
   ·rw[Sg o7];exact L
   ·rw[Sg (λe=>hk e.symm)]
   ·simp[Uw]at v
   ·have o:sQ e n D->sQ e n (upd D i ⟨8,.zero,0,(D i).J,(D i).S⟩):=λx k a b=>by
     by_cases hk:k=i
     ·subst hk;rw[upd_same];exact .inr rfl
     ·rw[upd_ne _ _ hk];exact x k a b
    cases tag<;>simp only[Mode]at c⊢
    case gY r=>exact(O ⟨r,rfl⟩).elim
    case nQ=>exact⟨c.1,c.2.1,o c.2.2.1,c.2.2.2⟩
    case a1=>exact⟨c.1,c.2.1,o c.2.2.1,c.2.2.2⟩
    case qX=>exact⟨c.1,c.2.1,o c.2.2.1,c.2.2.2⟩
    case qm=>exact⟨c.1,c.2.1,o c.2.2.1,c.2.2.2⟩
    case go=>exact⟨c.1,c.2.1,o c.2.2.1,c.2.2.2⟩
    case snd=>exact⟨c.1,c.2.1,o c.2.2.1,c.2.2.2⟩
    all_goals exact absurd c.1 s7
def FE{ev:K_}(h:Bk p.Wg ev)(a:(Td ev).touch? = A_ x):dX p x.loc/\x.kind≠.plain/\x.kind≠.said:=by
 rcases h with h|h|⟨b,wr,rfl,d⟩
 ·rw[ofEvent_loc_mark h]at a;cases a
 ·rw[ofEvent_loc_mark h]at a;cases a
 ·rcases Ph a with⟨h1,_,h3⟩|⟨c,h1|h1,_⟩
  ·rw[h1,h3];exact⟨.inl ⟨b,rfl,.inl d⟩,by simp,by simp⟩
  ·cases h1
  ·cases h1
def QW{ev:K_}(h:Bk p.Wg ev)(c:p.Low<=B):(Td ev).low B:=by
 have:=p.wg;rcases h with h|h|⟨b,wr,rfl,d⟩
 ·rw[ofEvent_loc_mark h];trivial
 ·rw[ofEvent_loc_mark h];trivial
 ·have a:b.block<B:=by omega
  cases wr<;>exact a
def oL.book{k d:Nat}(h:oL p t k)(c:Deaf t k=d)(fn:XG)(pos:String)(b:∀ev∈es,Bk p.Wg ev)(l:∀j ev,es[j]? = A_ ev->(Td ev).touch? = Option.none\/0<UU d (es.extract 0 j)):oL p (t++Uw k fn pos es) k:=by
 obtain⟨r,h1,h2⟩:=h;refine⟨r,h1.book c fn pos b l,λi x hi n q o=>?_⟩;obtain⟨s,ho,a⟩:=YM q;rcases TH ho with⟨e,f⟩|⟨_,g⟩
 ·exact h2 i x hi (by rw[<-g?_old e];exact n) (by rw[ZG f];exact a) o
 ·obtain⟨ev,m,h3,_⟩:=kQ g;rw[h3]at a;exact(FE (b ev m) a).1
def oL.new{k:Nat}(d:Deaf t k=0)(fn:XG)(pos:String):oL p (t++Uw k fn pos #[mk (.releaseMerge (stA p.Wg))]) k:=by
 refine⟨t.size,RelBy.new d fn pos,λi x hi g f h=>?_⟩;obtain⟨j,ho,a⟩:=YM f;rcases TH ho with⟨e,_⟩|⟨_,b⟩
 ·omega
 ·obtain⟨ev,c,h3,_⟩:=kQ b;simp at c;subst c;rw[h3]at a;cases a
def JI(a:GI p w)(h:∀b:Nat,b≠p.Wg->w'.heap[b]? = w.heap[b]?)(f:w'.heap.size=w.heap.size)(ho:io w'=io w)(g:WgAt p.ty p.Wg w' st sm):GI p w':=by
 obtain⟨cl,s,r,d⟩:=a.ch;obtain⟨cs,h1,h2⟩:=a.an;exact⟨⟨_,_,g⟩,⟨cl,s,r,(h _ (λe=>p.gc e.symm)).trans d⟩,⟨cs,(h _ (λe=>p.ga e.symm)).trans h1,h2⟩,by rw[f];exact a.low,p.yu _ _ (λb c=>h b c.2.1) o7 ho a.fx⟩
def Cv(h:Aside p.Wg w w'):(∀b:Nat,b≠p.Wg->w'.heap[b]? = w.heap[b]?)/\w'.heap.size=w.heap.size/\io w'=io w:=⟨h.block,h.size,zT h.os h.output⟩
def Py(n:Nat)(D:Nat->WG):Vc n D<=n:=by
 have:=sumTo_le (f:=λi=>cnt (D i)) (c:=1) (j:=n) λi _=>by simp only[cnt];split<;>omega
 simpa[Vc]using this
def aAd(a:i<n):cnt (D i)<=Vc n D:=le_sumTo (f:=λx=>cnt (D x)) a
def bIa(a:i<n)(d':WG):Vc n (upd D i d')+cnt (D i)=Vc n D+cnt d':=sumTo_upd D d' cnt a
def Rf(Z:∀g,AtR g->g.status=.running)(L:∀g w,Anch g w->g.status=.running)(ha:gs[0]? = A_ a)(O:CS P p W aS job Fin Anch tag f d0 a w)(B:Wo P p AtR z val e n gs w D (Hd p.m tag))(A:Tr p e n D d0 (Hd p.m tag) w.heap.size t)(N:gU p cl w)(u:Mode e n W D tag st sm cl)(E:0<i)(q:i<n){g':H_}{st' sm':Int}(hg:gs[i]? = A_ g)(U:stepG P E_ g w=.go g' w' es)(M:Aside p.Wg w w')(l:WgAt p.ty p.Wg w' st' sm')(c:∀ev∈es,Bk p.Wg ev)(G:i<e->∀ev∈es,(Td ev).touch? = B_)(Q:∀j ev,es[j]? = A_ ev->(Td ev).touch? = B_\/0<UU (D i).deaf (es.extract 0 j))(Y:(D i).stage<=6)(X:WS P p AtR z val d' g' w')(H:i<e->d'.stage=0)(I:e<=i->1<=d'.stage)(hJ:d'.J=(D i).J)(hS:d'.S=(D i).S)(R:UU (D i).deaf es=d'.deaf)(d:∀tag',(tag'=tag\/(tag=.blk/\tag'=.w3))->(mayWake P g=G_->g'.status=.running->tag'≠.blk)->Mode e n W (upd D i d') tag' st' sm' cl)(V:(d'.stage<(D i).stage/\cnt d'<=cnt (D i))\/(d'.stage=(D i).stage/\Rk.Lt d'.rk (D i).rk)):
  ∃m₁ ops μ',runT P (crowd gs w sl) i=(.next m₁,ops)/\Mu.Lt μ' ⟨phi W p.m (Vc n D) tag+Sm n D,n,λk=>(D k).rk,f⟩/\Inv P p AtR z val W aS job Fin Anch e μ' m₁ (t++ops):=by
 obtain⟨h1,h2,h3⟩:=Cv M;have o:=JI B.gi h1 h2 h3 l
 refine stepW Z L ha O B A E q hg U (.Ed o (.inl rfl) h1 h2 h3 (λ_ h=>h.elim)) (λk ke kn _=>.Ed o (.inl rfl) h1 h2 h3 (λb K=>B.sep.low k b ke kn K)) X H I hJ (λb K=>.inl (by rw[hS]at K;exact K))
  (λev C x hx _=>.inr (.inr (FE (c ev C) hx))) G (λev C=>QW (c ev C) o.low) (λev C F=>?_) R (λT _=>(A.rel i T q Y).book (A.deafW i E q) _ _ c Q) l ?_ (λh=>u.open (h.imp (λ⟨k,x,y,_,v⟩=>⟨k,x,y,v⟩) id)) d V
 ·rcases c ev C with h|h|⟨b,wr,rfl,_⟩
  ·rw[h]at F;cases F
  ·rw[h]at F;cases F
  ·cases F
 ·obtain⟨s,r,h⟩:=N;exact⟨s,r,(h1 _ (λe=>p.gc e.symm)).trans h⟩
def aY8{ev:K_}(h:ev.mute=G_):ev.loc=.mark .disable\/ev.loc=.mark .enable:=by
 obtain⟨l,wr,a⟩:=ev;cases l with
 |mark m=>cases m<;>first|exact .inl rfl|exact .inr rfl|(cases h;done)
 |_=>cases h
def bC0(I:∀g,AtR g->g.status=.running)(s:∀g w,Anch g w->g.status=.running)(K:gs[0]? = A_ a)(v:CS P p W aS job Fin Anch tag f d0 a w)(l:Wo P p AtR z val e n gs w D (Hd p.m tag))(F:Tr p e n D d0 (Hd p.m tag) w.heap.size t)(G:WgAt p.ty p.Wg w st sm)(u:gU p cl w)(c:Mode e n W D tag st sm cl)(o:0<i)(r:i<n)(M:gs[i]? = A_ g)(b:g.status=.running)(h1:(D i).stage<=1)(C:(D i).rk=ZA q)(H:QuitsD P q (D i).deaf g)(x:(D i).stage=1->Done p val (D i).J w):
  ∃m₁ ops μ',runT P (crowd gs w sl) i=(.next m₁,ops)/\Mu.Lt μ' ⟨phi W p.m (Vc n D) tag+Sm n D,n,λk=>(D k).rk,f⟩/\Inv P p AtR z val W aS job Fin Anch e μ' m₁ (t++ops):=by
 cases q with
 |zero=>rw[H.1]at b;cases b
 |succ q=>
  rcases H with⟨L,_⟩|⟨_,g',es,y,E,B⟩
  ·rw[L]at b;cases b
  ·have A:∀ev∈es,ev.loc=.mark .disable\/ev.loc=.mark .enable:=λev d=>aY8 (y ev d)
   refine Rf I s K v l F u c o r (d':={ D i with rk:=ZA q,deaf:=UU (D i).deaf es }) M (E w) (.refl p.Wg w) G (λev d=>(A ev d).imp id .inl) (λ_ ev d=>touch_mute (y ev d)) (λj ev d=>.inl (touch_mute (y ev (Ut d)))) o7 (.quit h1 rfl B x) (λh=>l.old i o h) (λh=>l.new i h r) rfl rfl rfl
    (λtag' N _=>(c.retag N).same (ES rfl)) (.inr ⟨rfl,?_⟩)
   rw[C];exact Rk.Lt.of (λ_=>ZA q) default
end
section
open Go.Rn hiding KK
open Go.Conc hiding served
open Go.ConcR (KK WgAt stA smA rd wr mk Payload again_blocked g_of_ofEvents loc_of_ofEvent ofEvent_loc_mark Bk ofEvent_mk deafBehind_cons deafBehind_one)
open Go.ConcN (sumTo sumTo_upd sumTo_congr upd upd_same upd_ne sumTo_le le_sumTo RelBy RelBy.new RelBy.book bk_cell Deaf_absent)
variable {e n W:Nat} {D:Nat->WG} {tag:Tag} {st sm:Int} {cl:Bool} {i:Nat} {d':WG}
def zU:Tag->Prop
 | .wm| .w3| .blk=>True
 |_=>False
def Mode.shut(a:e<=i)(b:i<n)(h:(D i).stage<=7)(c:Mode e n W D tag st sm cl):cl=G_:=by
 have o:sQ e n D->False:=λx=>by have:=x i a b;omega
 have q:AO e n D->False:=λx=>by have:=x i a b;omega
 cases tag<;>simp only[Mode]at c<;>first|exact c.1|exact(o c.2.2.1).elim|exact(q c.2.2.1).elim
def Mode.isLast(c:e<=i)(d:i<n)(h:(D i).stage=4\/(D i).stage=3\/(D i).stage=2)(a:Mode e n W D tag st sm cl):
  zU tag/\cl=G_/\n=W+e/\(∀k,e<=k->k<n->k≠i->(D k).stage=1)/\st=(if(D i).stage=2 then 0 else 1)/\sm=0:=by
 have o:sQ e n D->False:=λx=>by have:=x i c d;omega
 have g:AO e n D->False:=λx=>by have:=x i c d;omega
 have s:Shut e n D->False:=λx=>by have:=x i c d;omega
 have q:Quit e n D->False:=λx=>by have:=x i c d;omega
 have f:∀b,jm e n D b st sm->(∀k,e<=k->k<n->k≠i->(D k).stage=1)/\st=(if(D i).stage=2 then 0 else 1)/\sm=0:=λb x=>by
  cases x with
  |reg h1=>exact(s h1).elim
  |last l h1 h2 h3 h4=>
   by_cases hk:i=l
   ·subst hk;exact⟨h4,rfl,rfl⟩
   ·have:=h4 i c d hk;omega
  |sema h1=>exact(q h1).elim
 cases tag<;>simp only[Mode]at a
 case wm=>exact⟨trivial,a.1,a.2.1,f _ a.2.2⟩
 case w3=>exact⟨trivial,a.1,a.2.1,f _ a.2.2⟩
 case blk=>exact⟨trivial,a.1,a.2.1,f _ a.2.2⟩
 case gY=>exact(g a.2.2.1).elim
 all_goals first|exact(o a.2.2.1).elim|exact(s a.2.2.1).elim|exact(q a.2.2.1).elim
def Mode.Ec(h:zU tag)(hn:n=W+e){b:Bool}(c:tag=.blk->b=E_)(a:jm e n D b st sm):Mode e n W D tag st sm G_:=by
 cases tag<;>try exact h.elim
 ·exact⟨rfl,hn,a.up⟩
 ·exact⟨rfl,hn,a.up⟩
 ·have:=c rfl;subst this;exact⟨rfl,hn,a⟩
def Mode.down(f:e<=i)(d:i<n)(A:(D i).stage=5)(h1:d'.stage=1)(c:Mode e n W D tag st sm cl):
  (∃v:Nat,v<n/\st=((v:Int)+1)*KK+((0:Nat):Int)/\sm=0/\Mode e n W (upd D i d') tag ((v:Int)*KK+((0:Nat):Int)) 0 cl)\/
  (zU tag/\∃v:Nat,v<n/\st=((v:Int)+1)*KK+((1:Nat):Int)/\sm=0/\(v≠0->Mode e n W (upd D i d') tag ((v:Int)*KK+((1:Nat):Int)) 0 cl)/\(v=0->cl=G_/\n=W+e/\∀k,e<=k->k<n->k≠i->(D k).stage=1)):=by
 have hv:=bIa d d' (D:=D);have y:cnt (D i)=1:=by unfold cnt;rw[RF o7]
 have z:cnt d'=0:=by unfold cnt;rw[RD o7]
 have r:=Py n D;have o:sQ e n D->False:=λx=>by have:=x i f d;omega
 have u:AO e n D->False:=λx=>by have:=x i f d;omega
 have q:Quit e n D->False:=λx=>by have:=x i f d;omega
 have s:Shut e n D->Shut e n (upd D i d'):=λx k a b=>by
  by_cases hk:k=i
  ·subst hk;rw[upd_same];omega
  ·rw[upd_ne _ _ hk];exact x k a b
 have e1:((Vc n D:Nat):Int)=((Vc n (upd D i d'):Nat):Int)+1:=by omega
 have w:∀b,jm e n D b st sm->Shut e n D/\1<=Vc n D/\st=(Vc n D:Nat)*KK+1/\sm=0:=λb x=>by
  cases x with
  |reg h1 h2=>exact⟨h1,h2,rfl,rfl⟩
  |last l h1 h2 h3 j=>
   by_cases hk:i=l
   ·subst hk;omega
   ·have:=j i f d hk;omega
  |sema h1=>exact(q h1).elim
 have reg:zU tag->cl=G_->n=W+e->(∃b,jm e n D b st sm)->(zU tag/\∃v:Nat,v<n/\st=((v:Int)+1)*KK+((1:Nat):Int)/\sm=0/\(v≠0->Mode e n W (upd D i d') tag ((v:Int)*KK+((1:Nat):Int)) 0 cl)/\(v=0->cl=G_/\n=W+e/\∀k,e<=k->k<n->k≠i->(D k).stage=1)):=by
  rintro p g hn ⟨b,t⟩;obtain⟨h2,h3,j,m⟩:=w b t;refine⟨p,Vc n (upd D i d'),by omega,by rw[j,e1];simp,m,λh=>?_,λh=>⟨g,hn,λk ke kn hk=>?_⟩⟩
  ·subst g;refine Mode.Ec p hn (λ_=>rfl) ?_;have:=jm.reg (b:=E_) (s h2) (by omega:1<=Vc n (upd D i d'))
   simpa using this
  ·have:=aAd (D:=upd D i d') kn;rw[upd_ne _ _ hk,h]at this;have B:=h2 k ke kn;unfold cnt at this;split at this
   ·omega
   ·omega
 cases tag<;>simp only[Mode]at c
 case wm=>exact .inr (reg trivial c.1 c.2.1 ⟨_,c.2.2⟩)
 case w3=>exact .inr (reg trivial c.1 c.2.1 ⟨_,c.2.2⟩)
 case blk=>exact .inr (reg trivial c.1 c.2.1 ⟨_,c.2.2⟩)
 case gY=>exact(u c.2.2.1).elim
 case kd=>exact .inl ⟨Vc n (upd D i d'),by omega,by rw[c.2.2.2.2,e1];simp,c.2.1,by simp only[Mode];exact⟨c.1,trivial,s c.2.2.1,c.2.2.2.1,by simp⟩⟩
 case anch=>exact .inl ⟨Vc n (upd D i d'),by omega,by rw[c.2.2.2.2,e1];simp,c.2.1,by simp only[Mode];exact⟨c.1,trivial,s c.2.2.1,c.2.2.2.1,by simp⟩⟩
 case w1=>exact .inl ⟨Vc n (upd D i d'),by omega,by rw[c.2.2.2.2,e1];simp,c.2.1,by simp only[Mode];exact⟨c.1,trivial,s c.2.2.1,c.2.2.2.1,by simp⟩⟩
 case w2=>exact .inl ⟨Vc n (upd D i d'),by omega,by rw[c.2.2.2.2.1,e1];simp,c.2.1,by simp only[Mode];exact⟨c.1,trivial,s c.2.2.1,c.2.2.2.1,by simp,by omega,c.2.2.2.2.2.2⟩⟩
 all_goals first|exact(o c.2.2.1).elim|exact(q c.2.2.1).elim
end
section
open Go.Rn hiding KK
open Go.Conc hiding served
open Go.ConcR (KK WgAt stA smA rd wr mk Payload again_blocked g_of_ofEvents loc_of_ofEvent ofEvent_loc_mark Bk ofEvent_mk deafBehind_cons deafBehind_one)
open Go.ConcN (sumTo sumTo_upd sumTo_congr upd upd_same upd_ne sumTo_le le_sumTo RelBy RelBy.new RelBy.book bk_cell Deaf_absent)
variable {P:TB} {p:Place} {AtR:H_->Prop} {z:D_} {val:Nat->D_} [Payload] {e n W:Nat} {gs gs':Array H_} {w w':C_} {sl:Option (Nat×Nat)} {D:Nat->WG} {aS:H_->C_->Prop} {job:Nat->D_} {Fin Anch:H_->C_->Prop} {tag tag':Tag} {f f' d0:Nat} {a a':H_} {t u:Trace} {st sm:Int} {cl:Bool}
variable {i:Nat} {g:H_} {D':Nat->WG} {es:Array K_}
def aZe(q:Nat):Rk.Lt (ZA q) (ZA (q+1)):=Rk.Lt.of (λ_=>ZA q) default
def GV{tag':Tag}(h:zU tag)(a:tag'=tag\/(tag=.blk/\tag'=.w3)):zU tag':=by rcases a with rfl|⟨rfl,rfl⟩<;>first|exact h|exact trivial
def workerStep(hW:Work P p AtR z val job)(V:∀g w,Anch g w->g.status=.running)(d9:n<2147483647)(ha:gs[0]? = A_ a)(Y:CS P p W aS job Fin Anch tag f d0 a w)(F:Wo P p AtR z val e n gs w D (Hd p.m tag))(U:Tr p e n D d0 (Hd p.m tag) w.heap.size t)(o:WgAt p.ty p.Wg w st sm)(X:gU p cl w)(c:Mode e n W D tag st sm cl)(Z:0<i)(l:i<n)(hg:gs[i]? = A_ g)(a8:g.status=.running):
  ∃m₁ ops μ',runT P (crowd gs w sl) i=(.next m₁,ops)/\Mu.Lt μ' ⟨phi W p.m (Vc n D) tag+Sm n D,n,λk=>(D k).rk,f⟩/\Inv P p AtR z val W aS job Fin Anch e μ' m₁ (t++ops):=by
 obtain⟨g₁,c0,d8⟩:=F.wk i Z l;obtain rfl:g=g₁:=by rw[hg]at c0;exact Uj c0
 have a3:2<=(D i).stage->e<=i:=λh=>by
  apply SL;intro c1;have:=F.old i Z o7;omega
 have c9:∀(rk:Rk) (dd:Nat) (S:Nat->Prop) tag',(tag'=tag\/(tag=.blk/\tag'=.w3))->Mode e n W (upd D i { D i with rk:=rk,deaf:=dd,S:=S }) tag' st sm cl:=λrk dd S tag' O=>(c.retag O).same (ES rfl)
 cases d8 with
 |walk h9 hd0 htree=>
  have u:=a3 o7;generalize T:(D i).rk=rk at htree;have R:iy p AtR val (D i).J (D i).S g w->∃m₁ ops μ',runT P (crowd gs w sl) i=(.next m₁,ops)/\Mu.Lt μ' ⟨phi W p.m (Vc n D) tag+Sm n D,n,λk=>(D k).rk,f⟩/\Inv P p AtR z val W aS job Fin Anch e μ' m₁ (t++ops):=λh=>bDn hW V ha Y F U o X c u l hg h9 hd0 h.1 h.2
  cases rk with
  |zero=>exact R (htree w (.refl F.gi))
  |nu fr=>
   rcases htree w (.refl F.gi)with h|⟨_,g',w',es,d,b2,a4⟩
   ·exact R h
   ·exact aDa hW.run V ha Y F U o X c u l hg d b2 hd0 o7 (.walk h9 hd0 a4) (by rw[T];exact .of fr w)
 |uj h8=>cases a8
 |fin h7 hd0 htree=>
  have u:=a3 o7;have b0:=c.shut u l o7;subst b0;generalize T:(D i).rk=rk at htree
  have R:CK P p val (D i).J (D i).S g w->∃m₁ ops μ',runT P (crowd gs w sl) i=(.next m₁,ops)/\Mu.Lt μ' ⟨phi W p.m (Vc n D) tag+Sm n D,n,λk=>(D k).rk,f⟩/\Inv P p AtR z val W aS job Fin Anch e μ' m₁ (t++ops):=λh=>by
   obtain⟨⟨C,v,hC,_,_,g',d,m,b3⟩,r⟩:=h;have c4:=(U.deafW i Z l).trans hd0
   exact stepW (d':=⟨6,ZA m,0,(D i).J,(D i).S⟩) (st':=st) (sm':=sm) (cl:=G_) hW.run V ha Y F U Z l hg d (.refl F.gi) (λ_ _ _ _=>.refl F.gi)
    (.post (s:=6) (f:=m) (C:=C) (v:=v) rfl o7 o7 rfl hC (.k1 b3) r) (λh=>by omega) (λ_=>by simp) rfl (λb hb=>.inl hb) (λev j x hx=>by simp at j;subst j;cases hx) (λ_ ev j=>by simp at j;subst j;rfl)
    (λev j=>by simp at j;subst j;exact Sn p.wg F.gi.low) (λev j=>by simp at j;subst j;simp[mk]) (by rw[hd0];rfl) (λ_ _=>oL.new c4 _ _) o X
    (λh=>c.open (h.imp (λ⟨k,x,y,_,v⟩=>⟨k,x,y,v⟩) id)) (λtag' O _=>(c.turn u l (.inr (.inl h7)) (.inr (.inl rfl))).retag O) (.inl ⟨by simp only;omega,by simp[cnt];rw[RF o7];exact RQ _⟩)
  cases rk with
  |zero=>exact R (htree w (.refl F.gi))
  |nu fr=>
   rcases htree w (.refl F.gi)with h|⟨_,g',w',es,d,b2,a4⟩
   ·exact R h
   ·exact aDa hW.run V ha Y F U o X c u l (r':=fr w) hg d b2 hd0 o7 (.fin h7 hd0 a4) (by rw[T];exact .of fr w)
 |@post _ _ s fu C v hs h2 h6 T hC hsit r=>
  have u:=a3 o7;have b0:=c.shut u l o7;subst b0;have I:ConcN.RW p.ty p.Wg C 1 0 0 w w:=ConcN.RW.refl w;have e0:i<e->∀{es:Array K_},∀ev∈es,(Td ev).touch? = B_:=λh=>by omega
  generalize b8:(D i).deaf=dd at hsit
  have book:∀{g':H_} {w':C_} {es:Array K_} {s' q':Nat} {st' sm':Int},stepG P E_ g w=.go g' w' es->Aside p.Wg w w'->WgAt p.ty p.Wg w' st' sm'->(∀ev∈es,Bk p.Wg ev)->
    (∀L ev,es[L]? = A_ ev->(Td ev).touch? = B_\/0<UU dd (es.extract 0 L))->(Done p val (D i).J w'->WS P p AtR z val ⟨s',ZA q',UU dd es,(D i).J,(D i).S⟩ g' w')->1<=s'->
    (∀tag',(tag'=tag\/(tag=.blk/\tag'=.w3))->(mayWake P g=G_->g'.status=.running->tag'≠.blk)->Mode e n W (upd D i ⟨s',ZA q',UU dd es,(D i).J,(D i).S⟩) tag' st' sm' G_)->((s'<s/\(5<=s'->5<=s))\/(s'=s/\q'+1=fu))->
    ∃m₁ ops μ',runT P (crowd gs w sl) i=(.next m₁,ops)/\Mu.Lt μ' ⟨phi W p.m (Vc n D) tag+Sm n D,n,λk=>(D k).rk,f⟩/\Inv P p AtR z val W aS job Fin Anch e μ' m₁ (t++ops):=by
   intro g' w' es s' q' st' sm' d b7 a9 c3 hd c2 h1 a6 c1;obtain⟨k1,k2,k3⟩:=Cv b7;have b9:=r.rely (.Ed (JI F.gi k1 k2 k3 a9) (.inl rfl) k1 k2 k3 (λb hb=>F.sep.low i b u l hb));refine Rf hW.run V ha Y F U X c Z l hg d b7 a9 c3 (λh=>by omega) (by rw[b8];exact hd) o7 (c2 b9) (λh=>by omega) (λ_=>h1) rfl rfl (by rw[b8]) a6 ?_;rcases c1 with⟨a1,a2⟩|⟨a1,a2⟩
   ·refine .inl ⟨by simp only;omega,?_⟩;simp only[cnt,hs];split
    ·rw[RF (a2 ‹_›)];exact RQ _
    ·exact Sv _
   ·refine .inr ⟨by simp only;omega,?_⟩;rw[T,<-a2];exact aZe q'
  have Q:∀{g':H_} {q':Nat},stepG P E_ g w=.go g' w #[]->ConcN.WSit P p.ty p.Wg C 1 (λ_ _=>False) (λ_ _=>False) 0 1 v s q' dd g' w->q'+1=fu->
    ∃m₁ ops μ',runT P (crowd gs w sl) i=(.next m₁,ops)/\Mu.Lt μ' ⟨phi W p.m (Vc n D) tag+Sm n D,n,λk=>(D k).rk,f⟩/\Inv P p AtR z val W aS job Fin Anch e μ' m₁ (t++ops):=by
   intro g' q' d c8 M;exact book d (.refl p.Wg w) o s7 s7 (λr=>.post rfl h2 h6 rfl hC c8 r) o7 (λtag' O _=>(c.retag O).same (ES hs.symm)) (.inr ⟨rfl,M⟩)
  cases hsit with
  |r0 h=>omega
  |k1 h=>
   rcases VE h with B|⟨m',rfl,A⟩
   ·obtain⟨_,g',d,m₂,hk⟩:=B w I
    exact book d (.refl p.Wg w) o (by intro ev j;simp at j;subst j;exact .inl rfl) (by intro L ev j;exact .inl (by have:=Ut j;simp at this;subst this;rfl)) (λr=>.post (s:=5) (f:=m₂) (v:=v) rfl o7 o7 rfl hC (.d1 hk) r) o7
     (λtag' O _=>(c.turn u l (.inr (.inr hs)) (.inr (.inr rfl))).retag O) (.inl ⟨by omega,by omega⟩)
   ·obtain⟨g',w',es,d,⟨rfl,rfl⟩,K⟩:=A w I;exact Q d (.k1 K) rfl
  |d1 h=>
   rcases VE h with B|⟨m',rfl,A⟩
   ·obtain⟨_,a7⟩:=B w I;have b5:∀ev∈#[rd (stA p.Wg),wr (stA p.Wg)],Bk p.Wg ev:=by intro ev j;simp at j;rcases j with rfl|rfl<;>exact bk_cell _ _ rfl
    have b6:∀L ev,(#[rd (stA p.Wg),wr (stA p.Wg)]:Array K_)[L]? = A_ ev->(Td ev).touch? = B_\/0<UU 1 ((#[rd (stA p.Wg),wr (stA p.Wg)]:Array K_).extract 0 L):=by
     intro L ev j
     match L,j with
     |0,_=>exact .inr (by simp[UU])
     |1,_=>exact .inr (by simp[UU,rd])
     |L+2,j=>simp at j
    have a5:∀{g':H_} {q:Nat} {x:Int},QuitsD P q 1 g'->stepG P E_ g w=.go g' (w.setCell (stA p.Wg) (.int .u64 x)) #[rd (stA p.Wg),wr (stA p.Wg)]->sm=0->(∀d':WG,d'.stage=1->Mode e n W (upd D i d') tag x 0 G_)->∃m₁ ops μ',runT P (crowd gs w sl) i=(.next m₁,ops)/\Mu.Lt μ' ⟨phi W p.m (Vc n D) tag+Sm n D,n,λk=>(D k).rk,f⟩/\Inv P p AtR z val W aS job Fin Anch e μ' m₁ (t++ops):=fun {g' q x} M d N a0=>
     book (s':=1) (q':=q) d (TQ w (stA p.Wg) _) (o.setSt x) b5 b6 (λr=>.quit s7 rfl M λ_=>r) o7 (λtag' O _=>by rw[N];exact(a0 _ rfl).retag O) (.inl ⟨by omega,by omega⟩)
    rcases c.down (d':=⟨1,.zero,0,(D i).J,(D i).S⟩) u l hs rfl with⟨vv,d6,H,N,_⟩|⟨hR,vv,d6,H,N,e1,c5⟩
    ·obtain⟨g',d,_,M⟩:=a7 vv 0 o7 o7 (by rw[<-H,<-N];exact o);obtain⟨q,M⟩:=M o7;refine a5 M d N λd' b1=>?_
     rcases c.down u l hs b1 with⟨v2,_,E,_,a0⟩|⟨_,v2,_,E,_,_⟩
     ·have:(v2:Int)=vv:=by rw[H]at E;simp only[KK]at E;omega
      rw[<-this];exact a0
     ·exfalso;rw[H]at E;simp only[KK]at E;omega
    ·obtain⟨g',d,hl,M⟩:=a7 vv 1 o7 o7 (by rw[<-H,<-N];exact o)
     by_cases d5:vv=0
     ·subst d5;obtain⟨m₂,hk⟩:=hl ⟨rfl,rfl⟩;obtain⟨_,hn,G⟩:=c5 rfl;refine book d (TQ w (stA p.Wg) _) (o.setSt _) b5 b6 (λr=>.post (s:=4) (f:=m₂) (v:=v) rfl o7 o7 rfl hC (.d2 hk) r) o7 (λtag' O _=>?_) (.inl ⟨by omega,by omega⟩);rw[N];refine Mode.Ec (b:=E_) (GV hR O) hn (λ_=>rfl) ?_;have:=jm.last (b:=E_) (D:=upd D i ⟨4,ZA m₂,UU 1 #[rd (stA p.Wg),wr (stA p.Wg)],(D i).J,(D i).S⟩) i u l (by rw[upd_same];simp) (λk ke kn hk=>by rw[upd_ne _ _ hk];exact G k ke kn hk);rw[upd_same]at this
      simpa using this
     ·obtain⟨q,M⟩:=M o7;refine a5 M d N λd' b1=>?_
      rcases c.down u l hs b1 with⟨v2,_,E,_,_⟩|⟨_,v2,_,E,_,a0,_⟩
      ·exfalso;rw[H]at E;simp only[KK]at E;omega
      ·have:(v2:Int)=vv:=by rw[H]at E;simp only[KK]at E;omega
       rw[<-this];exact a0 o7
   ·obtain⟨g',w',es,d,⟨rfl,rfl⟩,K⟩:=A w I;exact Q d (.d1 K) rfl
  |d2 h=>
   rcases VE h with B|⟨m',rfl,A⟩
   ·obtain⟨_,hx⟩:=B w I;obtain⟨hR,_,hn,G,rfl,rfl⟩:=c.isLast u l o7;simp only[hs]at o;obtain⟨g',d,m₂,hk⟩:=hx (by simpa using o);refine book d (.refl p.Wg w) o (by intro ev j;simp at j;subst j;exact bk_cell _ _ rfl) (by intro L ev j;match L,j with|0,_=>exact .inr (by simp[UU])|L+1,j=>simp at j) (λr=>.post (s:=3) (f:=m₂) (v:=v) rfl o7 o7 rfl hC (.d3 hk) r) o7 (λtag' O _=>?_) (.inl ⟨by omega,by omega⟩);refine Mode.Ec (b:=E_) (GV hR O) hn (λ_=>rfl) ?_;have:=jm.last (b:=E_) (D:=upd D i ⟨3,ZA m₂,UU 1 #[rd (stA p.Wg)],(D i).J,(D i).S⟩) i u l (by rw[upd_same];simp) (λk ke kn hk=>by rw[upd_ne _ _ hk];exact G k ke kn hk);rw[upd_same]at this
    simpa using this
   ·obtain⟨g',w',es,d,⟨rfl,rfl⟩,K⟩:=A w I;exact Q d (.d2 K) rfl
  |d3 h=>
   rcases VE h with B|⟨m',rfl,A⟩
   ·obtain⟨_,hx⟩:=B w I;obtain⟨hR,_,hn,G,rfl,rfl⟩:=c.isLast u l o7;simp only[hs]at o;obtain⟨g',d,m₂,hk⟩:=hx (by simpa using o);refine book (q':=m₂) d (TQ w (stA p.Wg) _) (o.setSt 0) (by intro ev j;simp at j;subst j;exact bk_cell _ _ rfl) (by intro L ev j;match L,j with|0,_=>exact .inr (by simp[UU])|L+1,j=>simp at j) (λr=>.post (s:=2) (f:=m₂) (v:=v) rfl o7 o7 rfl hC (.d4 hk) r) o7 (λtag' O _=>?_) (.inl ⟨by omega,by omega⟩);refine Mode.Ec (b:=E_) (GV hR O) hn (λ_=>rfl) ?_;have:=jm.last (b:=E_) (D:=upd D i ⟨2,ZA m₂,UU 1 #[wr (stA p.Wg)],(D i).J,(D i).S⟩) i u l (by rw[upd_same];simp) (λk ke kn hk=>by rw[upd_ne _ _ hk];exact G k ke kn hk);rw[upd_same]at this
    simpa using this
   ·obtain⟨g',w',es,d,⟨rfl,rfl⟩,K⟩:=A w I;exact Q d (.d3 K) rfl
  |d4 h=>
   rcases VE h with B|⟨m',rfl,A⟩
   ·obtain⟨_,c6,hx⟩:=B w I;obtain⟨hR,_,hn,G,rfl,rfl⟩:=c.isLast u l o7;simp only[hs]at o;obtain⟨g',d,q,M⟩:=hx (by simpa using o)
    have b4:g'.status=.running:=by
     cases q with
     |zero=>have:=M.2;omega
     |succ q=>exact M.elim (λh=>by have:=h.2;omega) (·.1)
    refine book (s':=1) (q':=q) d (TQ w (smA p.Wg) _) (o.setSm 1) ?_ ?_ (λr=>.quit s7 rfl (by simpa[UU,YL]using M) λ_=>r) o7 (λtag' O d7=>?_) (.inl ⟨by omega,by omega⟩)
    ·intro ev j;simp[YL]at j;rcases j with rfl|rfl|rfl|rfl
     ·exact .inl rfl
     ·exact bk_cell _ _ rfl
     ·exact bk_cell _ _ rfl
     ·exact .inr (.inl rfl)
    ·intro L ev j
     match L,j with
     |0,j=>simp[YL]at j;subst j;exact .inl rfl
     |1,_=>exact .inr (by simp[UU,YL])
     |2,_=>exact .inr (by simp[UU,YL])
     |3,j=>simp[YL]at j;subst j;exact .inl rfl
     |L+4,j=>simp[YL]at j
    ·have c7:=d7 c6 b4;refine Mode.Ec (b:=G_) (GV hR O) hn (λh=>absurd h c7) ?_
     have:=jm.sema (D:=upd D i ⟨1,ZA q,UU 1 (YL (smA p.Wg)),(D i).J,(D i).S⟩) (λk ke kn=>by
      by_cases hk:k=i
      ·subst hk;rw[upd_same]
      ·rw[upd_ne _ _ hk];exact G k ke kn hk)
     simpa using this
   ·obtain⟨g',w',es,d,⟨rfl,rfl⟩,K⟩:=A w I;exact Q d (.d4 K) rfl
  |quit h=>omega
 |quit h1 T M r=>exact bC0 hW.run V ha Y F U o X c Z l hg a8 h1 T M r
def step0(c:Wo P p AtR z val e n gs w D (Hd p.m tag))(g:Tr p e n D d0 (Hd p.m tag) w.heap.size t)(U:gs[0]? = A_ a)(F:stepG P G_ a w=.go a' w' es)(r:w'.heap.size=w.heap.size)(E:GI p w')(M:∀k,0<k->k<n->∃x,((gs.map (woken P a a' w')).setIfInBounds 0 a')[k]? = A_ x/\WS P p AtR z val (D' k) x w')(s:∀k,(D' k).J=(D k).J)(A:∀k,(D' k).S=(D k).S)(V:∀k,0<k->k<n->(D' k).deaf=(D k).deaf)(q:∀k,(D k).stage=0->(D' k).stage=0)(I:∀k,1<=(D k).stage->1<=(D' k).stage)(K:∀k,(D' k).stage<=6->(D k).stage<=6)(C:CS P p W aS job Fin Anch tag' f' (UU d0 es) a' w')(H:∀ev∈es,∀x,(Td ev).touch? = A_ x->x.loc.isMemory=G_->(sS p x.loc/\x.write=E_)\/(dX p x.loc/\x.kind≠.plain))(l:∀ev∈es,(Td ev).low w.heap.size)(G:∀ev∈es,ev.loc≠.mark (.release (stA p.Wg)))(N:Hd p.m tag'=Hd p.m tag)(L:WgAt p.ty p.Wg w' st sm)(B:gU p cl w')(f:Mode e n W D' tag' st sm cl):
  ∃m₁ ops,runT P (crowd gs w sl) 0=(.next m₁,ops)/\Inv P p AtR z val W aS job Fin Anch e ⟨phi W p.m (Vc n D') tag'+Sm n D',n,λk=>(D' k).rk,f'⟩ m₁ (t++ops):=by
 have o:=runT_crowd_go (sl:=sl) U (by simpa using F);have Q:=c.sep.pos;have X:=c.sep.le;have h0:0<gs.size:=by rw[c.size];omega
 refine⟨_,_,o,_,w',sl,n,D',tag',f',UU d0 es,a',st,sm,cl,rfl,by simp[h0],C,?_,?_,L,B,f,rfl⟩
 ·rw[N];refine⟨by simp[c.size],E,M,q 0 c.main,λk v ke=>q k (c.old k v ke),λk ke kn=>I k (c.new k ke kn),by rw[GZ s,Jj A];exact c.sep,λk b ke kn O=>by rw[A]at O;rw[r];exact c.sB k b ke kn O,λk j ke kn u=>by rw[s]at u;exact c.jH k j ke kn u,λj u=>?_⟩;obtain⟨k,ke,kn,hk⟩:=c.zD j u;exact⟨k,ke,kn,by rw[s];exact hk⟩
 ·rw[N,r];refine g.app c.sep o7 (RQ _) (λy d=>(kQ d).choose_spec.2.2) (λy d x T Y=>?_) (λh=>by omega) (λy d=>?_) (λh=>by omega) (λy d R=>?_) s A ?_ (λk v kn=>?_) (λk _ h=>K k h) (λh=>by omega)
  ·obtain⟨ev,i,h1,_⟩:=kQ d;rw[h1]at T;rcases H ev i x T Y with⟨h2,h3⟩|⟨h2,h3⟩
   ·exact .inr (.inl ⟨h2,h3,.inl rfl⟩)
   ·exact .inr (.inr ⟨h2,h3,λ_=>rfl⟩)
  ·obtain⟨ev,i,h1,_⟩:=kQ d;rw[h1];exact l ev i
  ·obtain⟨ev,i,h1,_⟩:=kQ d;rw[h1]at R;exact G ev i (loc_of_ofEvent R)
  ·rw[Deaf_own,g.deaf0]
  ·rw[X_ t o7 _ (λy d=>(kQ d).choose_spec.2.2),g.deafW k v kn,V k v kn]
def OH(I:∀g,AtR g->g.status=.running)(c:Wo P p AtR z val e n gs w D (Hd p.m tag))(B:Tr p e n D d0 (Hd p.m tag) w.heap.size t)(L:gs[0]? = A_ a)(s:stepG P G_ a w=.go a' w' es)(F:∀J S:Nat->Prop,(∀b,S b->p.Low<=b)->Rl p J S w w')(A:w'.heap.size=w.heap.size)(r:CS P p W aS job Fin Anch tag' f' (UU d0 es) a' w')(y:∀ev∈es,∀x,(Td ev).touch? = A_ x->x.loc.isMemory=G_->(sS p x.loc/\x.write=E_)\/(dX p x.loc/\x.kind≠.plain))(l:∀ev∈es,(Td ev).low w.heap.size)(v:∀ev∈es,ev.loc≠.mark (.release (stA p.Wg)))(K:Hd p.m tag'=Hd p.m tag)(C:WgAt p.ty p.Wg w' st sm)(j:gU p cl w')(o:(∃k,e<=k/\k<n/\(D k).stage=8)->cl=E_)(i:Mode e n W D tag' st sm cl)(u:phi W p.m (Vc n D) tag'<phi W p.m (Vc n D) tag\/(phi W p.m (Vc n D) tag'=phi W p.m (Vc n D) tag/\f'<f)):
  ∃q d μ',runT P (crowd gs w sl) 0=(.next q,d)/\Mu.Lt μ' ⟨phi W p.m (Vc n D) tag+Sm n D,n,λk=>(D k).rk,f⟩/\Inv P p AtR z val W aS job Fin Anch e μ' q (t++d):=by
 have E:=c.sep.pos
 obtain⟨q,d,h1,h2⟩:=step0 c B L s A (F (λ_=>False) (λ_=>False) (λ_ h=>h.elim)).gi
  (λk N kn=>c.others I (λk ke kn _=>F _ _ (λb M=>c.sep.low k b ke kn M)) (λk ke kn _ H=>by have:=o ⟨k,ke,kn,H⟩;subst this;exact j) k N kn o7) (λ_=>rfl) (λ_=>rfl) (λ_ _ _=>rfl) (λ_ h=>h) (λ_ h=>h) (λ_ h=>h) r y l v K C j i
 refine⟨q,d,_,h1,?_,h2⟩;rcases u with h|⟨h,G⟩
 ·exact .a (by simp only;omega)
 ·exact .f (by simp only;omega) rfl rfl G
def idle0(y:∀g,AtR g->g.status=.running)(i:Wo P p AtR z val e n gs w D (Hd p.m tag))(u:Tr p e n D d0 (Hd p.m tag) w.heap.size t)(A:gs[0]? = A_ a)(r:stepG P G_ a w=.go a' w' es)(B:D0 p w w' es)(o:CS P p W aS job Fin Anch tag f' d0 a' w')(v:WgAt p.ty p.Wg w st sm)(l:gU p cl w)(c:Mode e n W D tag st sm cl)(s:f'<f):
  ∃m₁ ops μ',runT P (crowd gs w sl) 0=(.next m₁,ops)/\Mu.Lt μ' ⟨phi W p.m (Vc n D) tag+Sm n D,n,λk=>(D k).rk,f⟩/\Inv P p AtR z val W aS job Fin Anch e μ' m₁ (t++ops):=by
 obtain⟨⟨h1,h2⟩,h3⟩:=B
 have q:GI p w':=by
  obtain⟨k1,k2,k3,F,G⟩:=i.gi;exact⟨by simpa only[WgAt,h1]using k1,by simpa only[gU,h1]using k2,by simpa only[AQ,h1]using k3,by rw[h1];exact F,p.yu _ _ (λb _=>by rw[h1]) (by rw[h1];exact RQ _) h2 G⟩
 refine OH y i u A r (λJ S _=>⟨q,λb _=>by rw[h1],λb _=>by rw[h1],λj _=>by simp only[World.cell?,h1],by rw[h1];exact RQ _,h2⟩) (by rw[h1]) ?_ (λev d x E C=>.inl ((h3 ev d).ok x E C)) (λev d=>MemAct.low_mono i.gi.low (h3 ev d).low) (λev d=>(h3 ev d).rel) rfl (by simpa only[WgAt,h1]using v) (by simpa only[gU,h1]using l) (λh=>c.open (.inl h)) c (.inr ⟨rfl,s⟩);rw[deafBehind_still (λev d=>⟨(h3 ev d).FX,(h3 ev d).Gd⟩) d0];exact o
def book0(H:∀g,AtR g->g.status=.running)(c:Wo P p AtR z val e n gs w D (Hd p.m tag))(G:Tr p e n D d0 (Hd p.m tag) w.heap.size t)(L:gs[0]? = A_ a)(E:stepG P G_ a w=.go a' w' es)(y:Aside p.Wg w w')(d:WgAt p.ty p.Wg w' st sm)(i:∀ev∈es,Bk p.Wg ev\/ev=mk (.read (smA p.Wg))\/ev=mk (.write (smA p.Wg)))(B:CS P p W aS job Fin Anch tag' f' (UU d0 es) a' w')(I:Hd p.m tag'=Hd p.m tag)(A:gU p cl w)(u:(∃k,e<=k/\k<n/\(D k).stage=8)->cl=E_)(l:Mode e n W D tag' st sm cl)(F:phi W p.m (Vc n D) tag'<phi W p.m (Vc n D) tag\/(phi W p.m (Vc n D) tag'=phi W p.m (Vc n D) tag/\f'<f)):
  ∃m₁ ops μ',runT P (crowd gs w sl) 0=(.next m₁,ops)/\Mu.Lt μ' ⟨phi W p.m (Vc n D) tag+Sm n D,n,λk=>(D k).rk,f⟩/\Inv P p AtR z val W aS job Fin Anch e μ' m₁ (t++ops):=by
 obtain⟨h1,h2,h3⟩:=Cv y;have C:=JI c.gi h1 h2 h3 d;have v:=Sn p.wg c.gi.low;refine OH H c G L E (λJ S K=>.Ed C (.inl rfl) h1 h2 h3 K) h2 B (λev q x o M=>.inr ?_) (λev q=>?_) (λev q j=>?_) I d ?_ u l F
 ·rcases i ev q with h|rfl|rfl
  ·exact⟨(FE h o).1,(FE h o).2.1⟩
  ·simp only[Td,mk,VH,Sk]at o;subst o;exact⟨.inl ⟨_,rfl,.inl rfl⟩,by simp⟩
  ·simp only[Td,mk,VH,Sk]at o;subst o;exact⟨.inl ⟨_,rfl,.inl rfl⟩,by simp⟩
 ·rcases i ev q with h|rfl|rfl
  ·exact QW h c.gi.low
  ·exact v
  ·exact v
 ·rcases i ev q with(h|h|⟨b,x,rfl,_⟩)|rfl|rfl
  ·rw[h]at j;cases j
  ·rw[h]at j;cases j
  ·cases j
  ·cases j
  ·cases j
 ·obtain⟨s,r,h⟩:=A;exact⟨s,r,(h1 _ (λe=>p.gc e.symm)).trans h⟩
end
section
open Go.Rn hiding KK
open Go.Conc hiding served
open Go.ConcR (KK WgAt stA smA rd wr mk Payload again_blocked g_of_ofEvents loc_of_ofEvent ofEvent_loc_mark Bk ofEvent_mk deafBehind_cons deafBehind_one)
open Go.ConcN (sumTo sumTo_upd sumTo_congr upd upd_same upd_ne sumTo_le le_sumTo RelBy RelBy.new RelBy.book bk_cell Deaf_absent)
variable {e n:Nat}
def OV(e:Nat){f g:Nat->Nat}:∀n,(∀k,k<n->f k<=g k+(if e<=k then 1 else 0))->sumTo n f<=sumTo n g+(n - e)
 |0,_=>by simp[sumTo]
 |n+1,h=>by
  have:=OV e n λk hk=>h k o7
  have:=h n o7;simp only[sumTo];split at this<;>omega
def aI1(e:Nat){f:Nat->Nat}:∀n,(∀k,k<n->f k=(if e<=k then 1 else 0))->sumTo n f=n - e
 |0,_=>by simp[sumTo]
 |n+1,h=>by
  have:=aI1 e n λk hk=>h k o7
  have:=h n o7;simp only[sumTo];split at this<;>omega
end
section
open Go.Rn hiding KK
open Go.Conc hiding served
open Go.ConcR (KK WgAt stA smA rd wr mk Payload again_blocked g_of_ofEvents loc_of_ofEvent ofEvent_loc_mark Bk ofEvent_mk deafBehind_cons deafBehind_one)
open Go.ConcN (sumTo sumTo_upd sumTo_congr upd upd_same upd_ne sumTo_le le_sumTo RelBy RelBy.new RelBy.book bk_cell Deaf_absent)
variable {P:TB} {p:Place} {AtR:H_->Prop} {z:D_} {val:Nat->D_} [Payload] {e n W:Nat} {gs gs':Array H_} {w w':C_} {sl:Option (Nat×Nat)} {D D':Nat->WG} {aS:H_->C_->Prop} {job:Nat->D_} {Fin Anch:H_->C_->Prop} {tag tag':Tag} {f f' d0:Nat} {a a':H_} {t u:Trace} {st sm:Int} {cl:Bool}
variable {r:Nat}
def bE1(hW:Work P p AtR z val job)(hr:r<p.m)(ha:gs[0]? = A_ a)(c:Wo P p AtR z val e n gs w D (Hd p.m (.snd (r+1))))(a4:Tr p e n D 0 (Hd p.m (.snd (r+1))) w.heap.size t)(a5:WgAt p.ty p.Wg w st sm)(a6:gU p cl w)(I:Mode e n W D (.snd (r+1)) st sm cl)(h:Az P p job (p.m - (r+1)) (vL P p job Anch r) a w):
  ∃m₁ ops μ',runT P (crowd gs w sl) 0=(.next m₁,ops)/\Mu.Lt μ' ⟨phi W p.m (Vc n D) (.snd (r+1))+Sm n D,n,λk=>(D k).rk,f⟩/\Inv P p AtR z val W aS job Fin Anch e μ' m₁ (t++ops):=by
 obtain⟨_,z0,N,u⟩:=h;have b4:=c.sep.pos;have b5:=c.sep.le;obtain⟨rfl,Z,E,hn,a0⟩:=I;obtain⟨s,rr,hc⟩:=a6;have B:0<gs.size:=by rw[c.size];omega
 have M:=bDo hW.run c;have q:stepG P (0 == 0) a w=.comm (core a) #[scase p.Ch (job (p.m - (r+1))) z0] G_ .send w #[]:=N
 by_cases l:∀k,e<=k->k<n->(D k).stage=9
 ·
  have hp:partners (gs.setIfInBounds 0 ph) p.Ch E_=[]:=partners_nil λj x R=>by
   apply SL;intro ho;obtain⟨_,h1,h2,h3,_⟩:=M j x R ho;have:=l j h1 h2;omega
  have o:=crowd_waits (sl:=sl) ha q (λcc U=>by simp at U;subst U;exact ways_send_none hc (RQ 0) hp);have a8:CS P p W aS job Fin Anch (.gY (r+1)) 0 0 (parked (core a) #[scase p.Ch (job (p.m - (r+1))) z0] .send) w:=.gY hr u;refine⟨_,_,⟨phi W p.m (Vc n D) (.gY (r+1))+Sm n D,n,λk=>(D k).rk,0⟩,o,.a (by simp only[phi];omega),_,w,sl,n,D,.gY (r+1),0,0,_,st,sm,E_,rfl,by simp[B],a8,?_,?_,a5,⟨s,rr,hc⟩,⟨rfl,Z,l,hn,a0⟩,rfl⟩
  ·refine⟨by simp[c.size],c.gi,λk k0 kn=>?_,c.main,c.old,c.new,c.sep,c.sB,c.jH,c.zD⟩;rw[Sg o7];exact c.wk k k0 kn
  ·simp only[Uw,Array.isEmpty_empty,if_true,Array.append_empty];exact a4
 ·
  have b2:partners (gs.setIfInBounds 0 ph) p.Ch E_≠[]:=by
   intro Y;apply l;intro k ke kn;rcases E k ke kn with h9|h8
   ·exact h9
   ·exfalso;obtain⟨x,R,A⟩:=c.wk k o7 kn;rcases A.status hW.run c.gi with h|⟨h,h1⟩|⟨g0,rfl,b6,_⟩
    ·cases A with
     |walk h1=>omega
     |uj=>cases h
     |fin h1=>omega
     |post h1=>omega
     |quit h1=>omega
    ·omega
    ·have:(k,0)∈partners (gs.setIfInBounds 0 ph) p.Ch E_:=mem_partners.2 ⟨_,by rw[Sg o7];exact R,by unfold sW;rw[offersAt_parked_recv];simp⟩;rw[Y]at this;cases this
  have T:∀j k,(j,k)∈partners (gs.setIfInBounds 0 ph) p.Ch E_->k=0/\j≠0/\∃gj zj Q,gs[j]? = A_ (parked gj #[rcase p.Ch zj] Q):=by
   intro j k b1;obtain⟨x,R,hk⟩:=mem_partners.1 b1;obtain⟨h1,_,_,_,g0,rfl,_,b3⟩:=M j x R (λh=>by rw[h]at hk;cases hk);unfold sW at hk;rw[offersAt_parked_recv]at hk;simp at hk;exact⟨hk,h1,_,_,_,b3⟩
  obtain⟨i,gj,zj,Q,d,b0,hj,o⟩:=crowd_send_meets_some ha q hc b2 T;obtain⟨_,H,g,h8,g0,hq,hR,_⟩:=M i _ (stand_get b0 hj) (by rw[offersAt_parked_recv];simp);have q1:Q=.recv G_:=by have:=RJ (λx:H_=>x.offers) hq;simp[parked,sW]at this;exact this.2
  have q3:∀v,Wy gj v=Wy (core g0) v:=by
   have a1:=RJ (λx:H_=>x.frame) hq;have a2:=RJ (λx:H_=>x.callers) hq;have a3:=RJ (λx:H_=>x.dying) hq;simp only[parked,core,sW]at a1 a2 a3;simp[Wy,core,a1,a2,a3]
  subst q1;rw[finishComm_recv,finishComm_send,q3]at o
  have G:Done p val (D i).J w/\(D i).deaf=0:=by
   obtain⟨x,R,A⟩:=c.wk i o7 g;cases A with
   |walk h1=>omega
   |uj h1 h2 h3 h4=>exact⟨h4,h2⟩
   |fin h1=>omega
   |post h1=>omega
   |quit h1=>omega
  obtain⟨G,a9⟩:=G;have F:∀k b,e<=k->k<n->(D k).S b->p.Low<=b:=λk b x y hb=>c.sep.low k b x y hb
  have X:i<gs.size:=by rw[c.size];exact g
  have C:=Di c.gi d (s+1) (rr+1) E_;have L:∀J S:Nat->Prop,(∀b,S b->p.Low<=b)->Rl p J S w ((w.at d).setChan p.Ch 0 #[] E_ (s+1) (rr+1) E_):=λJ S hS=>KG c.gi d (s+1) (rr+1) E_ hS
  obtain⟨rk,O⟩:=hW.got g0 (D i).J (D i).S _ (p.m - (r+1)) hR C o7 (G.rely (L _ (D i).S (F i · H g))) (F i · H g);obtain⟨f1,V⟩:=Oy o7 (u _ (L _ _ (λ_ h=>h.elim)));have e2:=sumTo_upd D (⟨9,rk,0,plus (D i).J (p.m - (r+1)),(D i).S⟩:WG) WG.stage g;have s1:WG.stage (⟨9,rk,0,plus (D i).J (p.m - (r+1)),(D i).S⟩:WG)=9:=rfl
  refine⟨_,_,_,o,?_,FM (d':=⟨9,rk,0,plus (D i).J (p.m - (r+1)),(D i).S⟩) c a4 H g (by simp[c.size]) (by simp[B]) ?_ (λk k0 kn hk=>?_) V (λk ke kn hk=>L _ _ (F k · ke kn)) C (.walk rfl rfl O) rfl (λj=>?_) (λj h=>?_) a9.symm s7 (λh=>by simp only at h;omega) (Bg ..) (λop K=>?_)
   ((zB d _ _ _ _ p.gc).trans a5) ⟨_,_,Dh c.gi d _ _ _⟩ ⟨rfl,Z,λk ke kn=>?_,hn,a0⟩⟩
  ·refine .a ?_;simp only[phi];unfold Sm;omega
  ·rw[Sg o7];simp[X];rfl
  ·rw[Sg o7,Sg (λe=>hk e.symm)]
  ·simp only[plus,Hd,left];constructor
   ·rintro(h|rfl)
    ·exact .inl h
    ·right;omega
   ·rintro(h|⟨h1,h2⟩)
    ·exact .inl h
    ·right;omega
  ·simp only[Hd,left]at h⊢;omega
  ·simp only[Uw]at K;simp at K;have a7:=Sn p.ch c.gi.low;rcases K with rfl|rfl|rfl|rfl<;>exact⟨by first|exact g|(show 0<n;omega),rfl,a7,λm h=>by cases h⟩
  ·by_cases hk:k=i
   ·subst hk;rw[upd_same];exact .inl rfl
   ·rw[upd_ne _ _ hk];exact E k ke kn
def aN5(hW:Work P p AtR z val job)(ha:gs[0]? = A_ a)(d:Wo P p AtR z val e n gs w D (Hd p.m (.snd 0)))(U:Tr p e n D 0 (Hd p.m (.snd 0)) w.heap.size t)(V:WgAt p.ty p.Wg w st sm)(N:gU p cl w)(q:Mode e n W D (.snd 0) st sm cl)(h:Cw P p Anch a w):
  ∃I o μ',runT P (crowd gs w sl) 0=(.next I,o)/\Mu.Lt μ' ⟨phi W p.m (Vc n D) (.snd 0)+Sm n D,n,λk=>(D k).rk,f⟩/\Inv P p AtR z val W aS job Fin Anch e μ' I (t++o):=by
 obtain⟨_,Q,y⟩:=h;obtain⟨rfl,R,F,hn,T⟩:=q;obtain⟨s,g,hc⟩:=N;obtain⟨a',es,E,j,r,m,B⟩:=y s g hc;have a0:=d.sep.pos;have a1:=d.sep.le;have ew:w.setChan p.Ch 0 #[] G_ s g E_=(w.at w.drawn).setChan p.Ch 0 #[] G_ s g E_:=rfl;rw[ew]at E B;have C:=Di d.gi w.drawn s g G_;have G:∀J S:Nat->Prop,(∀b,S b->p.Low<=b)->Rl p J S w ((w.at w.drawn).setChan p.Ch 0 #[] G_ s g E_):=λJ S hS=>KG d.gi w.drawn s g G_ hS
 have A:=Sn p.ch d.gi.low
 let D':Nat->WG:=λk=>if(D k).stage=8 then { D k with stage:=9,rk:=.zero }else D k
 have v:∀k,(D k).stage=8->D' k={ D k with stage:=9,rk:=.zero }:=λk h=>RF h
 have dn:∀k,(D k).stage≠8->D' k=D k:=λk h=>RD h
 have u:∀k,(D' k).stage=if(D k).stage=8 then 9 else(D k).stage:=λk=>by
  by_cases h:(D k).stage=8
  ·rw[v k h,RF h]
  ·rw[dn k h,RD h]
 have dJ:∀k,(D' k).J=(D k).J:=λk=>by
  by_cases h:(D k).stage=8
  ·rw[v k h]
  ·rw[dn k h]
 have dS:∀k,(D' k).S=(D k).S:=λk=>by
  by_cases h:(D k).stage=8
  ·rw[v k h]
  ·rw[dn k h]
 have dd:∀k,(D' k).deaf=(D k).deaf:=λk=>by
  by_cases h:(D k).stage=8
  ·rw[v k h]
  ·rw[dn k h]
 have Z:∀k,k<n->¬e<=k->(D k).stage=0:=λk kn hk=>by
  rcases Vu k with rfl|h
  ·exact d.main
  ·exact d.old k h o7
 have H:∀k,e<=k->k<n->(D' k).stage=9:=λk ke kn=>by
  rw[u];rcases F k ke kn with h|h
  ·rw[RD o7,h]
  ·rw[RF h]
 have hV:Vc n D'=W:=by
  have:Vc n D'=n - e:=aI1 e n λk kn=>by
   by_cases hk:e<=k
   ·simp only[cnt,H k hk kn,hk,if_true];rfl
   ·simp only[cnt,u,Z k kn hk,hk,if_false];rfl
  omega
 obtain⟨I,o,h1,h2⟩:=step0 (tag':=.kd) (f':=m) (aS:=aS) (job:=job) (Fin:=Fin) (Anch:=Anch) d U ha E (Bg ..) C
  (λk k0 kn=>by
   obtain⟨x,Y,l⟩:=d.wk k k0 kn
   have i:((gs.map (woken P a a' ((w.at w.drawn).setChan p.Ch 0 #[] G_ s g E_))).setIfInBounds 0 a')[k]? = A_ (woken P a a' ((w.at w.drawn).setChan p.Ch 0 #[] G_ s g E_) x):=by
    rw[Sg o7,VL,Y];rfl
   rw[i];refine⟨_,rfl,?_⟩
   by_cases L:(D k).stage=8
   ·rw[v k L];cases l with
    |walk h1=>omega
    |@uj g0 _ h1 h2 h3 h4=>
     have O:e<=k:=by
      apply SL;intro hk;have:=Z k kn hk;omega
     have K:woken P a a' ((w.at w.drawn).setChan p.Ch 0 #[] G_ s g E_) (sW p z g0)={ sW p z g0 with status:=.running }:=by
      unfold Conc.woken;rw[RF (by simp[Q,r])];exact again_recv_closed (Dh d.gi w.drawn s g G_)
     rw[K];refine .walk rfl h2 λw₁ X=>⟨hW.again g0 h3,?_⟩
     exact(h4.rely (G _ (D k).S (λb M=>d.sep.low k b O kn M))).rely X
    |fin h1=>omega
    |post h1=>omega
    |quit h1=>omega
   ·rw[dn k L,l.woken hW.run d.gi a a' (λh=>absurd h L)];rcases Us k e with hk|hk
    ·exact PL (d.old k k0 hk) l
    ·exact l.rely (G _ _ (λb M=>d.sep.low k b hk kn M))) dJ dS (λk _ _=>dd k) (λk h=>by rw[u,h];rfl) (λk h=>by rw[u];split<;>omega) (λk h=>by rw[u]at h;split at h<;>omega)
  (by
   rw[deafBehind_still (λev i=>by obtain⟨b,rfl⟩:=j ev i;exact⟨by simp,by simp⟩) 0];exact .kd B)
  (λev i x Y hm=>by
   obtain⟨b,rfl⟩:=j ev i;rcases Ph Y with⟨h1,h2,h3⟩|⟨c,h1|h1,_⟩
   ·exact .inr ⟨.inr ⟨p.Ch,h1,.inl rfl⟩,by rw[h3];simp⟩
   ·cases h1
   ·cases h1)
  (λev i=>by
   obtain⟨b,rfl⟩:=j ev i;cases b<;>exact A)
  (λev i=>by
   obtain⟨b,rfl⟩:=j ev i;simp)
  rfl ((zB _ _ _ _ _ p.gc).trans V) ⟨_,_,Dh d.gi _ _ _ _⟩ ⟨rfl,R,λk ke kn=>.inl (H k ke kn),hn,by rw[hV];exact T⟩
 refine⟨I,o,_,h1,.a ?_,h2⟩
 have hS:Sm n D'<=Sm n D+(n - e):=OV e n λk kn=>by
  rw[u]
  by_cases hk:e<=k
  ·rw[RF hk];split<;>omega
  ·rw[RD hk,Z k kn hk];simp
 simp only[phi];omega
end
section
open Go.Rn hiding KK
open Go.Conc hiding served
open Go.ConcR (KK WgAt stA smA rd wr mk Payload again_blocked g_of_ofEvents loc_of_ofEvent ofEvent_loc_mark Bk ofEvent_mk deafBehind_cons deafBehind_one)
open Go.ConcN (sumTo sumTo_upd sumTo_congr upd upd_same upd_ne sumTo_le le_sumTo RelBy RelBy.new RelBy.book bk_cell Deaf_absent)
variable (P:TB) (p:Place) (val:Nat->D_) (Fin:H_->C_->Prop) (N:Nat)
def Final(mc:Machine)(t:Trace):Prop:=
 ∃(gs:Array H_) (w:C_) (sl:Option (Nat×Nat)) (a:H_) (q:Nat->Nat),mc=crowd gs w sl/\gs[0]? = A_ a/\Fin a w/\Leavers P t gs q/\Past (dX p) w.heap.size t/\(Quiet (dX p) t/\(∀(i:Nat) (op:MemOp),t[i]? = A_ op->op.g<gs.size)/\gs.size=N)/\GI p w/\∀j,j<p.m->w.cell? ⟨p.An,j,B_⟩=A_ (val j)
end
section
open Go.Rn hiding KK
open Go.Conc hiding served
open Go.ConcR (KK WgAt stA smA rd wr mk Payload again_blocked g_of_ofEvents loc_of_ofEvent ofEvent_loc_mark Bk ofEvent_mk deafBehind_cons deafBehind_one)
open Go.ConcN (sumTo sumTo_upd sumTo_congr upd upd_same upd_ne sumTo_le le_sumTo RelBy RelBy.new RelBy.book bk_cell Deaf_absent)
variable {P:TB} {p:Place} {AtR:H_->Prop} {z:D_} {val:Nat->D_} [Payload] {e n W:Nat} {gs gs':Array H_} {w w':C_} {sl:Option (Nat×Nat)} {D D':Nat->WG} {aS:H_->C_->Prop} {job:Nat->D_} {Fin Anch:H_->C_->Prop} {tag tag':Tag} {f f' d0:Nat} {a a':H_} {t u:Trace} {st sm:Int} {cl:Bool}
variable {H:Nat->Prop} {B q r:Nat}
def bBs(h:Tr p e n D 0 H B t)(f:∀k,e<=k->k<n->(D k).stage<=6)(G:t.act? q=A_ (.mark (.acquire (stA p.Wg))))(o:t.g? q=A_ 0)(C:t.heard q)(I:∀k r,e<=k->k<n->RelBy (stA p.Wg) t k r->r<q):Past (dX p) B t:=by
 have b:∀k r,e<=k->k<n->RelBy (stA p.Wg) t k r->HappensBefore t r q:=λk r ke kn hrel=>.single (.inr ⟨.marked (I k r ke kn hrel) (.inr hrel.act) G (λi _ _=>h.norel i),hrel.heard,C⟩)
 obtain⟨y,z,j⟩:=Ul.1 o;refine⟨h.ti.nr,λi x l s=>?_,λi g a u w=>?_,h.deaf0,h.ti.seen⟩
 ·obtain⟨m,ho,F⟩:=YM l;have a:t.g? i=A_ m.g:=by simp[Trace.g?,ho]
  rcases h.kn i x m.g l s a with h1|h1|⟨ke,kn⟩
  ·exact .inl h1
  ·exact .inr h1
  ·obtain⟨r,hrel,v⟩:=h.rel m.g ke kn (f _ ke kn);rcases Nat.lt_trichotomy i r with c|rfl|d
   ·exact .inl ⟨q,y,z,j,.inr (.trans (.single (.inl ⟨c,m.g,a,hrel.g⟩)) (b _ r ke kn hrel))⟩
   ·exact .inl ⟨q,y,z,j,.inr (b _ _ ke kn hrel)⟩
   ·refine .inr ⟨v i x d a l s,?_⟩;apply SL;intro hk;exact hrel.after i d a ⟨x,l,s,.inl hk⟩
 ·rcases h.ho i g a u w with h1|⟨ke,kn⟩
  ·exact h1
  ·obtain⟨r,hrel,_⟩:=h.rel g ke kn (f _ ke kn);have E:=Nat.le_of_not_lt λc=>hrel.after i c a w
   rcases Us i r with c|A
   ·exact⟨q,o,.trans (.single (.inl ⟨c,g,a,hrel.g⟩)) (b _ r ke kn hrel)⟩
   ·obtain rfl:i=r:=by omega
    exact⟨q,o,b _ _ ke kn hrel⟩
def aK3(R:∀g,AtR g->g.status=.running)(S:gs[0]? = A_ a)(b:Wo P p AtR z val e n gs w D (Hd p.m .acq))(o:Tr p e n D 0 (Hd p.m .acq) w.heap.size t)(y:Mode e n W D .acq st sm cl)(h:AtAcq P p Fin a w):
  ∃m₁ ops,runT P (crowd gs w sl) 0=(.next m₁,ops)/\Final P p val Fin (W+e) m₁ (t++ops):=by
 obtain⟨_,a',I,E⟩:=h;obtain⟨rfl,_,d,hn,_⟩:=y;have N:=b.sep.pos;have T:=b.sep.le;have C:0<gs.size:=by rw[b.size];omega
 have G:=runT_crowd_go (sl:=sl) S (by simpa using I);have v:Uw 0 a.frame.fn a.frame.place #[mk (.acquire (stA p.Wg))]=#[{ g:=0,fn:=a.frame.fn,pos:=a.frame.place,act:=.mark (.acquire (stA p.Wg)) }]:=by rw[ofEvents_eq];simp[ofEvent_mk]
 have L:=Sn p.wg b.gi.low;have F:=b.others R (i:=0) (g:=a) (g':=a') (λ_ _ _ _=>.refl b.gi) (λk ke kn _ X=>by have:=d k ke kn;omega)
 have f:Tr p e n D 0 (Hd p.m .acq) w.heap.size (t++Uw 0 a.frame.fn a.frame.place #[mk (.acquire (stA p.Wg))]):=by
  refine o.app b.sep o7 (RQ _) (λs c=>(kQ c).choose_spec.2.2) (λs c x H Y=>?_) (λh=>by omega) (λs c=>?_) (λh=>by omega) (λs c Q=>?_) (λ_=>rfl) (λ_=>rfl) ?_ (λk V kn=>?_) (λk _ h=>h) (λh=>by omega)
  ·obtain⟨ev,l,h1,_⟩:=kQ c;simp at l;subst l;rw[h1]at H;cases H
  ·obtain⟨ev,l,h1,_⟩:=kQ c;simp at l;subst l;rw[h1];exact L
  ·obtain⟨ev,l,h1,_⟩:=kQ c;simp at l;subst l;rw[h1]at Q;cases Q
  ·rw[Deaf_own,o.deaf0];rfl
  ·rw[X_ t (g':=0) o7 _ (λs c=>(kQ c).choose_spec.2.2),o.deafW k V kn]
 have A:Past (dX p) w.heap.size (t++Uw 0 a.frame.fn a.frame.place #[mk (.acquire (stA p.Wg))]):=by
  refine bBs (q:=t.size) f (λk ke kn=>by have:=d k ke kn;omega) ?_ ?_ ?_ (λk r ke kn hrel=>?_)
  ·rw[v];simp[Trace.act?]
  ·rw[v];simp[Trace.g?]
  ·exact⟨0,by rw[v];simp[Trace.g?],by rw[deaf_old (RQ _)];exact o.deaf0⟩
  ·have u:=hrel.g;obtain⟨s,ho,U⟩:=Ul.1 u;rcases TH ho with⟨J,_⟩|⟨_,K⟩
   ·exact J
   ·have:=(kQ K).choose_spec.2.2;omega
 have O:∀k,∃q,∀g,0<k->((gs.map (woken P a a' w)).setIfInBounds 0 a')[k]? = A_ g->QuitsD P q (Deaf (t++Uw 0 a.frame.fn a.frame.place #[mk (.acquire (stA p.Wg))]) k) g:=by
  intro k
  by_cases hk:0<k/\k<n
  ·obtain⟨x,H,B⟩:=F k hk.1 hk.2 o7
   have h1:(D k).stage<=1:=by
    rcases Us k e with h|h
    ·rw[b.old k hk.1 h];omega
    ·rw[d k h hk.2];omega
   cases B with
   |walk h=>omega
   |uj h=>omega
   |fin h=>omega
   |post h=>omega
   |@quit _ _ q _ _ h3 _=>exact⟨q,λg _ u=>by rw[H]at u;cases u;rw[f.deafW k hk.1 hk.2];exact h3⟩
  ·refine⟨0,λg h0 u=>?_⟩
   have:k<n:=by
    have:=(Sb.1 u).1;simp[b.size]at this;exact this
   exact absurd ⟨h0,this⟩ hk
 refine⟨_,_,G,_,w,sl,a',λk=>ZJ (O k),rfl,by simp[C],E,⟨λi g hi u=>Xh (O i) g hi u,λj M=>?_⟩,A,⟨f.ti.quiet,λi s hi=>by have:=f.ti.gs i s hi;simp[b.size];exact this,by simp[b.size];exact hn⟩,b.gi,λj M=>?_⟩
 ·simp[b.size]at M;exact Deaf_absent λi s hi l=>by have:=f.ti.gs i s hi;omega
 ·obtain⟨k,ke,kn,hk⟩:=b.zD j (by simp only[Hd,left];omega);obtain⟨x,_,B⟩:=b.wk k o7 kn;have h1:=d k ke kn;cases B with
  |walk h=>omega
  |uj h=>omega
  |fin h=>omega
  |post h=>omega
  |quit _ _ _ h4=>exact h4 h1 j hk
def bF2(hK:∀g w,GI p w->aS g w->∃r,Tree P E_ (Rl p (λ_=>False)) (DW p (λ_=>False)) (iy p AtR val (λ_=>False)) r (λ_=>False) g w)(a9:r<W)(ha:gs[0]? = A_ a)(d:Wo P p AtR z val e n gs w D (Hd p.m (.go r)))(a5:Tr p e n D 0 (Hd p.m (.go r)) w.heap.size t)(a6:WgAt p.ty p.Wg w st sm)(a1:gU p cl w)(M:Mode e n W D (.go r) st sm cl)(h:AtGo P aS (Sp P p W aS job Anch r) a w):
  ∃m₁ ops μ',runT P (crowd gs w sl) 0=(.next m₁,ops)/\Mu.Lt μ' ⟨phi W p.m (Vc n D) (.go r)+Sm n D,n,λk=>(D k).rk,f⟩/\Inv P p AtR z val W aS job Fin Anch e μ' m₁ (t++ops):=by
 obtain⟨_,a',l,a2,T,E⟩:=h;obtain⟨rfl,Y,U,hn,Z⟩:=M;have F:=d.sep.pos;have a3:=d.sep.le;have Q:0<gs.size:=by rw[d.size];omega
 obtain⟨rk,N⟩:=hK l w d.gi T;have G:=runT_crowd_spawn (sl:=sl) ha (by simpa using a2)
 have V:((Uw 0 a.frame.fn a.frame.place #[]).push { g:=0,fn:=a.frame.fn,pos:=a.frame.place,act:=.go gs.size } |>.push { g:=gs.size,fn:=l.frame.fn,pos:=a.frame.place,act:=.start }:Trace)=#[{ g:=0,fn:=a.frame.fn,pos:=a.frame.place,act:=.go n },{ g:=n,fn:=l.frame.fn,pos:=a.frame.place,act:=.start }]:=by
  rw[d.size];simp[Uw]
 rw[V]at G
 have nx:∃tag' f',CS P p W aS job Fin Anch tag' f' 0 a' w/\Hd p.m tag'=Hd p.m (.go r)/\phi W p.m 0 tag'+9<phi W p.m 0 (.go r)/\(∀v,phi W p.m v tag'=phi W p.m 0 tag')/\(∀D1:Nat->WG,sQ e (n+1) D1->Mode e (n+1) W D1 tag' st sm E_):=by
  cases r with
  |zero=>
   obtain⟨f1,I⟩:=Oy (Fin:=Fin) (RQ _) E;refine⟨.snd p.m,f1,I,rfl,by simp only[phi];omega,λ_=>rfl,λD1 H=>⟨rfl,Y,H,by omega,?_⟩⟩;rw[Z];have:n - e+1=W:=by omega
   rw[this]
  |succ r=>
   obtain⟨f1,hk⟩:=E;refine⟨.nQ r,f1,.nQ o7 hk,rfl,by simp only[phi];omega,λ_=>rfl,λD1 H=>⟨rfl,Y,H,by omega,?_⟩⟩;rw[Z];have:n+1 - e=n - e+1:=by omega
   rw[this]
 obtain⟨tag',f',I,hH,a8,X,a4⟩:=nx
 let dk:WG:=⟨9,rk,0,λ_=>False,λ_=>False⟩
 have u:∀k,k<n->upd D n dk k=D k:=λk hk=>upd_ne _ _ o7
 have o:∀k,k≠n->upd D n dk k=D k:=λk hk=>upd_ne _ _ hk
 have dn:upd D n dk n=dk:=upd_same _ _ _
 have L:Tr p e n (upd D n dk) 0 (Hd p.m (.go r)) w.heap.size t:=a5.give
  (λk b A=>by
   by_cases hk:k=n
   ·subst hk;rw[dn]at A;exact A.elim
   ·rw[o k hk]at A;exact .inl A)
  (λk b A=>by
   by_cases hk:k=n
   ·subst hk;rw[dn]at A;exact A.elim
   ·rw[o k hk]at A;exact .inl A) (λ_ h=>h) (λk _ kn=>by rw[u k kn])
  (λk h6=>by
   by_cases hk:k=n
   ·subst hk;rw[dn]at h6;exact absurd h6 (by show¬9<=6;omega)
   ·rw[o k hk]at h6;exact h6)
 have K:=L.fork (x:={ g:=0,fn:=a.frame.fn,pos:=a.frame.place,act:=.go n }) (y:={ g:=n,fn:=l.frame.fn,pos:=a.frame.place,act:=.start }) F a3 (λj h=>by rw[dn]at h;exact h) (λj h=>by rw[dn]at h;exact h) (by rw[dn]) (by rw[dn];show 6<9;omega) ⟨rfl,rfl⟩ ⟨rfl,rfl⟩
 have a0:Sm (n+1) (upd D n dk)=Sm n D+9:=by
  unfold Sm;simp only[sumTo,dn];rw[sumTo_congr (g:=λk=>(D k).stage) (λk hk=>by rw[u k hk])]
 refine⟨_,_,⟨phi W p.m (Vc (n+1) (upd D n dk)) tag'+Sm (n+1) (upd D n dk),n+1,λk=>(upd D n dk k).rk,f'⟩,G,.a ?_,_,w,sl,n+1,upd D n dk,tag',f',0,a',st,sm,E_,rfl,?_,I,?_,by rw[hH];exact K,a6,a1,a4 _ (λk ke kn=>?_),rfl⟩
 ·simp only;rw[X,a0];have:phi W p.m (Vc n D) (.go r)=phi W p.m 0 (.go r):=rfl;omega
 ·rw[j_ (by simpa using Q)];simp
 ·rw[hH];refine⟨by simp[d.size],d.gi,λk k0 kn=>?_,by rw[u 0 o7];exact d.main,λk k0 ke=>by rw[u k o7];exact d.old k k0 ke,λk ke kn=>?_,⟨F,by omega,λk B b k1 k2 k3 k4 h1 h2=>?_,λk B b k1 k2 k3 k4 h1 h2=>?_,λk b k1 k2 h1=>?_⟩,λk b ke kn A=>?_,λk j ke kn O=>?_,λj O=>?_⟩
  ·rcases Us k n with q|R
   ·obtain⟨x,hx,a7⟩:=d.wk k k0 q;refine⟨x,?_,by rw[u k q];exact a7⟩;rw[j_ (by simp[d.size];exact q)];have:=hx;rw[<-Sg (i:=0) (j:=k) (a:=a') o7]at this;rw[<-this,Tf]
   ·obtain rfl:k=n:=by omega
    refine⟨l,?_,by rw[dn];exact .walk rfl rfl N⟩;rw[<-d.size];have:gs.size=(gs.setIfInBounds 0 a').size:=by simp
    rw[this,Array.getElem?_push_size]
  ·rcases Us k n with q|R
   ·rw[u k q];exact d.new k ke q
   ·obtain rfl:k=n:=by omega
    rw[dn];show 1<=9;omega
  ·have e1:k≠n:=λh=>by subst h;have c:(upd D k dk k).S b:=h1;rw[dn]at c;exact c
   have e2:B≠n:=λh=>by subst h;have c:(upd D B dk B).S b:=h2;rw[dn]at c;exact c
   have c:(upd D n dk k).S b:=h1;have C:(upd D n dk B).S b:=h2;rw[o k e1]at c;rw[o B e2]at C;exact d.sep.s k B b k1 o7 k3 o7 c C
  ·have e1:k≠n:=λh=>by subst h;have c:(upd D k dk k).J b:=h1;rw[dn]at c;exact c
   have e2:B≠n:=λh=>by subst h;have c:(upd D B dk B).J b:=h2;rw[dn]at c;exact c
   have c:(upd D n dk k).J b:=h1;have C:(upd D n dk B).J b:=h2;rw[o k e1]at c;rw[o B e2]at C;exact d.sep.j k B b k1 o7 k3 o7 c C
  ·have e1:k≠n:=λh=>by subst h;have c:(upd D k dk k).S b:=h1;rw[dn]at c;exact c
   have c:(upd D n dk k).S b:=h1;rw[o k e1]at c;exact d.sep.low k b k1 o7 c
  ·have e1:k≠n:=λh=>by subst h;rw[dn]at A;exact A
   rw[o k e1]at A;exact d.sB k b ke o7 A
  ·have e1:k≠n:=λh=>by subst h;rw[dn]at O;exact O
   rw[o k e1]at O;exact d.jH k j ke o7 O
  ·obtain⟨k,ke,kn,hk⟩:=d.zD j O;exact⟨k,ke,by omega,by rw[u k kn];exact hk⟩
 ·rcases Us k n with q|R
  ·rw[u k q];exact U k ke q
  ·obtain rfl:k=n:=by omega
   rw[dn];exact .inl rfl
def bC1(a:Shut e n D)(h:Vc n D=0):Quit e n D:=λk ke kn=>by
 have:=aAd (D:=D) kn;have h2:=a k ke kn;unfold cnt at this;split at this<;>omega
def aI3:∀n,sumTo n (λ_=>0)=0
 |0=>rfl
 |n+1=>by simp only[sumTo,aI3 n]
def Fb(P:TB)(p:Place)(AtR:H_->Prop)(z:D_)(val:Nat->D_)[Payload](W:Nat)(aS:H_->C_->Prop)(job:Nat->D_)(Fin Anch:H_->C_->Prop)(e:Nat)(μ:Mu)(x:Stepped×Trace)(t:Trace):Prop:=
 (∃m₁ ops,x=(.next m₁,ops)/\Final P p val Fin (W+e) m₁ (t++ops))\/(∃m₁ ops μ',x=(.next m₁,ops)/\Mu.Lt μ' μ/\Inv P p AtR z val W aS job Fin Anch e μ' m₁ (t++ops))
def aX9(hW:Work P p AtR z val job)(X:∀g w,GI p w->Anch g w->∃k,G0 P p (AtW1 P p Fin Anch) k g w)(hK:∀g w,GI p w->aS g w->∃r,Tree P E_ (Rl p (λ_=>False)) (DW p (λ_=>False)) (iy p AtR val (λ_=>False)) r (λ_=>False) g w)(b2:n<2147483647)(F:gs[0]? = A_ a)(a6:CS P p W aS job Fin Anch tag f d0 a w)(u:Wo P p AtR z val e n gs w D (Hd p.m tag))(y:Tr p e n D d0 (Hd p.m tag) w.heap.size t)(v:WgAt p.ty p.Wg w st sm)(A:gU p cl w)(i:Mode e n W D tag st sm cl)(U:a.status=.running):
  Fb P p AtR z val W aS job Fin Anch e ⟨phi W p.m (Vc n D) tag+Sm n D,n,λk=>(D k).rk,f⟩ (runT P (crowd gs w sl) 0) t:=by
 have B:R0 p w w:=.refl u.gi;have G:=hW.run;have b3:=u.sep.le;have E:∀{tg:Tag},Mode e n W D tg st sm cl->(∃k,e<=k/\k<n/\(D k).stage=8)->cl=E_:=λR h=>R.open (.inl h)
 have N:∀{ev:K_},Bk p.Wg ev->∀T∈#[ev],Bk p.Wg T\/T=mk (.read (smA p.Wg))\/T=mk (.write (smA p.Wg)):=λh T L=>by simp at L;subst L;exact .inl h
 have V:∀ev∈#[rd (stA p.Wg),wr (stA p.Wg)],Bk p.Wg ev\/ev=mk (.read (smA p.Wg))\/ev=mk (.write (smA p.Wg)):=λev L=>by simp at L;rcases L with rfl|rfl<;>exact .inl (bk_cell _ _ rfl)
 have w1:∀k,G0 P p (AtW1 P p Fin Anch) k a w->d0=1->Hd p.m tag=Hd p.m .w1->Mode e n W D .w1 st sm cl->(phi W p.m (Vc n D) .w1<phi W p.m (Vc n D) tag\/(phi W p.m (Vc n D) .w1=phi W p.m (Vc n D) tag/\k<=f))->
   Fb P p AtR z val W aS job Fin Anch e ⟨phi W p.m (Vc n D) tag+Sm n D,n,λk=>(D k).rk,f⟩ (runT P (crowd gs w sl) 0) t:=by
  intro k h a7 hH R a9;subst a7;rcases VE h with o|⟨I,rfl,q⟩
  ·obtain⟨_,K⟩:=o w B;obtain⟨h1,h2,h3,O,Q⟩:=R;have a4:=Py n D;obtain⟨a',s,hz,b0⟩:=K (Vc n D) o7 (by rw[<-Q,<-h2];exact v)
   by_cases hv:Vc n D=0
   ·obtain⟨I,hk⟩:=hz hv;refine .inr (book0 (tag':=.ke) G u y F s (.refl p.Wg w) v (N (bk_cell _ _ rfl)) (.ke hk) (by rw[hH];rfl) A (E i) ⟨h1,h2,bC1 h3 hv,O,by rw[Q,hv];simp⟩ (.inl ?_));have:phi W p.m (Vc n D) .ke<phi W p.m (Vc n D) .w1:=by simp only[phi];omega
    omega
   ·obtain⟨I,hk⟩:=b0 hv;refine .inr (book0 (tag':=.w2 (Vc n D)) G u y F s (.refl p.Wg w) v (N (bk_cell _ _ rfl)) (.w2 hk) (by rw[hH];rfl) A (E i) ⟨h1,h2,h3,O,Q,RQ _,by omega⟩ (.inl ?_));have:phi W p.m (Vc n D) (.w2 (Vc n D))<phi W p.m (Vc n D) .w1:=by simp only[phi];omega
    omega
  ·obtain⟨a',w',es,s,H,C⟩:=q w B;obtain⟨⟨h1,h2⟩,h3⟩:=H
   have a8:GI p w':=by
    obtain⟨k1,k2,k3,k4,k5⟩:=u.gi;exact⟨by simpa only[WgAt,h1]using k1,by simpa only[gU,h1]using k2,by simpa only[AQ,h1]using k3,by rw[h1];exact k4,p.yu _ _ (λb _=>by rw[h1]) (by rw[h1];exact RQ _) h2 k5⟩
   refine .inr (OH (f':=I) G u y F s (λJ S _=>⟨a8,λb _=>by rw[h1],λb _=>by rw[h1],λj _=>by simp only[World.cell?,h1],by rw[h1];exact RQ _,h2⟩) (by rw[h1]) ?_ (λev L x hx R=>.inl ((h3 ev L).ok x hx R)) (λev L=>MemAct.low_mono u.gi.low (h3 ev L).low) (λev L=>(h3 ev L).rel) hH.symm (by simpa only[WgAt,h1]using v) (by simpa only[gU,h1]using A) (E i) R ?_)
   ·rw[deafBehind_still (λev L=>⟨(h3 ev L).FX,(h3 ev L).Gd⟩) 1];exact .w1 C
   ·rcases a9 with h|⟨h,h'⟩
    ·exact .inl h
    ·exact .inr ⟨h,by omega⟩
 cases a6 with
 |@nQ r _ _ _ M h=>
  rcases VE h with o|⟨I,rfl,q⟩
  ·obtain⟨_,a',s,I,hk⟩:=o w B;exact .inr (book0 G u y F s (.refl p.Wg w) v (N (.inl rfl)) (.a1 M hk) rfl A (E i) i (.inl (by simp only[phi];omega)))
  ·obtain⟨a',w',es,s,H,C⟩:=q w B;exact .inr (idle0 G u y F s H (.nQ M C) v A i o7)
 |@a1 r _ _ _ M h=>
  rcases VE h with o|⟨I,rfl,q⟩
  ·obtain⟨_,K⟩:=o w B;obtain⟨h1,h2,h3,O,Q⟩:=i;have ej:W - (r+1)=n - e:=by omega
   obtain⟨a',s,hk⟩:=K (by rw[ej,<-Q,<-h2];exact v);have a5:WgAt p.ty p.Wg (w.setCell (stA p.Wg) (.int .u64 ((W - (r+1)+1:Nat)*KK))) (((n - e+1:Nat):Int)*KK) sm:=by rw[ej];exact v.setSt _
   rcases hk with⟨I,hk⟩|⟨I,hk⟩
   ·exact .inr (book0 G u y F s (TQ w (stA p.Wg) _) a5 V (.qm M hk) rfl A (λ_=>h1) ⟨h1,h2,h3,O,rfl⟩ (.inl (by simp only[phi];omega)))
   ·exact .inr (book0 (tag':=.qX r) G u y F s (TQ w (stA p.Wg) _) a5 V (.qX M hk) rfl A (λ_=>h1) ⟨h1,h2,h3,O,rfl⟩ (.inl (by simp only[phi];omega)))
  ·obtain⟨a',w',es,s,H,C⟩:=q w B;exact .inr (idle0 G u y F s H (.a1 M C) v A i o7)
 |@qX r _ _ _ M h=>
  rcases VE h with o|⟨I,rfl,q⟩
  ·obtain⟨_,a',s,I,hk⟩:=o w B;exact .inr (book0 (tag':=.qm r) G u y F s (.refl p.Wg w) v (λev L=>by simp at L;subst L;exact .inr (.inl rfl)) (.qm M hk) rfl A (E i) i (.inl (by simp only[phi];omega)))
  ·obtain⟨a',w',es,s,H,C⟩:=q w B;exact .inr (idle0 G u y F s H (.qX M C) v A i o7)
 |@qm r _ _ _ M h=>
  rcases VE h with o|⟨I,rfl,q⟩
  ·obtain⟨_,a',s,I,hk⟩:=o w B;exact .inr (book0 (tag':=.go r) G u y F s (.refl p.Wg w) v (N (.inr (.inl rfl))) (.go M hk) rfl A (E i) i (.inl (by simp only[phi];omega)))
  ·obtain⟨a',w',es,s,H,C⟩:=q w B;exact .inr (idle0 G u y F s H (.qm M C) v A i o7)
 |@go r _ _ _ M h=>
  rcases VE h with o|⟨I,rfl,q⟩
  ·exact .inr (bF2 hK M F u y v A i (o w B))
  ·obtain⟨a',w',es,s,H,C⟩:=q w B;exact .inr (idle0 G u y F s H (.go M C) v A i o7)
 |cls h=>
  rcases VE h with o|⟨I,rfl,q⟩
  ·exact .inr (aN5 hW F u y v A i (o w B))
  ·obtain⟨a',w',es,s,H,C⟩:=q w B;exact .inr (idle0 G u y F s H (.cls C) v A i o7)
 |@snd r _ _ _ M h=>
  rcases VE h with o|⟨I,rfl,q⟩
  ·exact .inr (bE1 hW M F u y v A i (o w B))
  ·obtain⟨a',w',es,s,H,C⟩:=q w B;exact .inr (idle0 G u y F s H (.snd M C) v A i o7)
 |gY=>cases U
 |kd h=>
  rcases VE h with o|⟨I,rfl,q⟩
  ·obtain⟨_,a',s,I,hk⟩:=o w B
   have a4:Vc n D<=W:=by
    obtain⟨_,_,h3,O,_⟩:=i
    have:Vc n D<=0+(n - e):=by
     have:=OV e (f:=λk=>cnt (D k)) (g:=λ_=>0) n λk kn=>by
      by_cases hk:e<=k
      ·rw[RF hk];unfold cnt;split<;>omega
      ·rw[RD hk]
       have h0:(D k).stage=0:=by
        rcases Vu k with rfl|h
        ·exact u.main
        ·exact u.old k h o7
       simp[cnt,h0]
     have hz:=aI3 n;unfold Vc;omega
    omega
   exact .inr (book0 (tag':=.anch) G u y F s (.refl p.Wg w) v (N (.inl rfl)) (.anch hk) rfl A (E i) i (.inl (by simp only[phi];omega)))
  ·obtain⟨a',w',es,s,H,C⟩:=q w B;exact .inr (idle0 G u y F s H (.kd C) v A i o7)
 |anch h=>
  rcases VE h with o|⟨I,rfl,q⟩
  ·obtain⟨k,hk⟩:=X a w u.gi (o w B);exact w1 k hk rfl rfl i (.inl (by simp only[phi];omega))
  ·obtain⟨a',w',es,s,H,C⟩:=q w B;exact .inr (idle0 G u y F s H (.anch C) v A i o7)
 |w1 h=>exact w1 _ h rfl rfl i (.inr ⟨rfl,RQ _⟩)
 |@w2 vs _ _ _ h=>
  rcases VE h with o|⟨I,rfl,q⟩
  ·obtain⟨_,K⟩:=o w B;obtain⟨h1,h2,h3,O,Q,h6,h7⟩:=i;have a4:=Py n D;obtain⟨a0,Y⟩:=K (Vc n D) o7 (by rw[<-Q,<-h2];exact v)
   by_cases hv:Vc n D=vs
   ·obtain⟨a',s,I,hk⟩:=a0 hv;exact .inr (book0 (tag':=.wm) G u y F s (TQ w (stA p.Wg) _) (v.setSt _) V (.wm hk) rfl A (λh=>by have:=(Mode.open (tag:=.w2 vs) (st:=st) (sm:=sm) (cl:=cl) (W:=W) ⟨h1,h2,h3,O,Q,h6,h7⟩ (.inl h));exact this) ⟨h1,O,by rw[h2];exact .reg h3 o7⟩ (.inl (by simp only[phi];omega)))
   ·obtain⟨a',s,I,hk⟩:=Y hv;exact .inr (book0 (tag':=.anch) G u y F s (.refl p.Wg w) v (N (bk_cell _ _ rfl)) (.anch hk) rfl A (λh=>by have:=(Mode.open (tag:=.w2 vs) (st:=st) (sm:=sm) (cl:=cl) (W:=W) ⟨h1,h2,h3,O,Q,h6,h7⟩ (.inl h));exact this) ⟨h1,h2,h3,O,Q⟩ (.inl (by simp only[phi];omega)))
  ·obtain⟨a',w',es,s,H,C⟩:=q w B;exact .inr (idle0 G u y F s H (.w2 C) v A i o7)
 |wm h=>
  rcases VE h with o|⟨I,rfl,q⟩
  ·obtain⟨_,a',s,I,hk⟩:=o w B;exact .inr (book0 G u y F s (.refl p.Wg w) v (λev L=>by simp at L;subst L;exact .inr (.inr rfl)) (.w3 hk) rfl A (E i) i (.inl (by simp only[phi];omega)))
  ·obtain⟨a',w',es,s,H,C⟩:=q w B;exact .inr (idle0 G u y F s H (.wm C) v A i o7)
 |@w3 n3 _ _ h=>
  rcases VE h with o|⟨I,rfl,q⟩
  ·obtain⟨_,_,Z,a3⟩:=o w B;have R:=i;obtain⟨h1,O,a2⟩:=i
   have block:sm=0->jm e n D E_ st sm->Fb P p AtR z val W aS job Fin Anch e ⟨phi W p.m (Vc n D) .w3+Sm n D,n,λk=>(D k).rk,n3+1⟩ (runT P (crowd gs w sl) 0) t:=λb1 M=>
    .inr (book0 G u y F (Z ⟨st,by rw[<-b1];exact v⟩) (.refl p.Wg w) v s7 (.blk o) rfl A (E R) ⟨h1,O,M⟩ (.inr ⟨rfl,Nat.succ_pos _⟩))
   cases a2 with
   |reg a b=>exact block rfl (.reg a b)
   |last l a b c d=>exact block rfl (.last l a b c d)
   |sema hq=>
    obtain⟨a',s,I,hk⟩:=a3 v;refine .inr (book0 (tag':=.w4) (f':=I) G u y F s (TQ w (smA p.Wg) _) (v.setSm 0) ?_ ?_ rfl A (E R) ⟨h1,rfl,hq,O,rfl⟩ (.inl (by simp only[phi];omega)))
    ·intro ev L;simp[YL]at L;rcases L with rfl|rfl|rfl|rfl
     ·exact .inl (.inl rfl)
     ·exact .inl (bk_cell _ _ rfl)
     ·exact .inl (bk_cell _ _ rfl)
     ·exact .inl (.inr (.inl rfl))
    ·have:UU 1 (YL (smA p.Wg))=1:=by simp[UU,YL]
     rw[this];exact .w4 hk
  ·obtain⟨a',w',es,s,H,C⟩:=q w B;exact .inr (idle0 G u y F s H (.w3 C) v A i o7)
 |blk=>cases U
 |w4 h=>
  rcases VE h with o|⟨I,rfl,q⟩
  ·obtain⟨_,K⟩:=o w B;have R:=i;obtain⟨h1,h2,h3,O,Q⟩:=i;obtain⟨a',s,I,hk⟩:=K (by rw[h2,Q]at v;exact v);exact .inr (book0 G u y F s (.refl p.Wg w) v (N (bk_cell _ _ rfl)) (.ke hk) rfl A (E R) ⟨h1,h2,h3,O,Q⟩ (.inl (by simp only[phi];omega)))
  ·obtain⟨a',w',es,s,H,C⟩:=q w B;exact .inr (idle0 G u y F s H (.w4 C) v A i o7)
 |ke h=>
  rcases VE h with o|⟨I,rfl,q⟩
  ·obtain⟨_,a',s,I,hk⟩:=o w B;exact .inr (book0 G u y F s (.refl p.Wg w) v (N (.inr (.inl rfl))) (.acq hk) rfl A (E i) i (.inl (by simp only[phi];omega)))
  ·obtain⟨a',w',es,s,H,C⟩:=q w B;exact .inr (idle0 G u y F s H (.ke C) v A i o7)
 |acq h=>
  rcases VE h with o|⟨I,rfl,q⟩
  ·exact .inl (aK3 G F u y i (o w B))
  ·obtain⟨a',w',es,s,H,C⟩:=q w B;exact .inr (idle0 G u y F s H (.acq C) v A i o7)
def aI2{f:Nat->Nat}:∀n,1<=sumTo n f->∃k,k<n/\1<=f k
 |0,h=>by simp[sumTo]at h
 |n+1,h=>by
  by_cases hn:1<=f n
  ·exact⟨n,by omega,hn⟩
  ·have a:1<=sumTo n f+f n:=h;obtain⟨k,hk,h1⟩:=aI2 (f:=f) n o7;exact⟨k,by omega,h1⟩
def Mode.few(h:Mode e n W D tag st sm cl):n<=W+e:=by
 cases tag<;>simp only[Mode]at h<;>omega
def someone(y:∀g,AtR g->g.status=.running)(o:∀g w,Anch g w->g.status=.running)(A:0<W)(B:gs[0]? = A_ a)(j:CS P p W aS job Fin Anch tag f d0 a w)(b:Wo P p AtR z val e n gs w D (Hd p.m tag))(c:Mode e n W D tag st sm cl):∃(i:Nat) (g:H_),gs[i]? = A_ g/\g.status=.running:=by
 have s:=b.sep.pos
 have d:∀k,e<=k->k<n->2<=(D k).stage->(D k).stage≠8->∃(i:Nat) (g:H_),gs[i]? = A_ g/\g.status=.running:=λk ke kn h2 v=>by
  obtain⟨x,E,q⟩:=b.wk k o7 kn;rcases q.status y b.gi with h|⟨_,h⟩|⟨_,_,_,h⟩
  ·exact⟨k,x,E,h⟩
  ·omega
  ·exact absurd h v
 by_cases t:waits tag
 ·cases j with
  |gY hr h=>
   obtain⟨_,_,h3,u,_⟩:=c;exact d e (RQ _) o7 (by rw[h3 e (RQ _) o7];omega) (by rw[h3 e (RQ _) o7];omega)
  |blk h=>
   obtain⟨_,h2,h3⟩:=c;cases h3 with
   |reg hs hv=>
    obtain⟨k,kn,hk⟩:=aI2 n hv;have r:5<=(D k).stage:=by simp only[cnt]at hk;split at hk<;>omega
    have ke:e<=k:=by
     apply SL;intro C;rcases Vu k with rfl|h0
     ·rw[b.main]at r;omega
     ·rw[b.old k h0 o7]at r;omega
    have:=hs k ke kn;exact d k ke kn o7 o7
   |last l h1 h2 h3 u=>exact d l h1 h2 o7 o7
  |_=>exact t.elim
 ·exact⟨0,a,B,j.running o b.gi t⟩
def Wo.at(h:Wo P p AtR z val e n gs w D H)(d:Nat):Wo P p AtR z val e n gs (w.at d) D H:=
 ⟨h.size,h.gi.at d,λk a kn=>let ⟨g,hg,hs⟩:=h.wk k a kn;⟨g,hg,hs.rely (.at h.gi d)⟩,h.main,h.old,h.new,h.sep,h.sB,h.jH,h.zD⟩
def bB7(A:Work P p AtR z val job)(o:∀g w,Anch g w->g.status=.running)(q:∀g w,GI p w->Anch g w->∃k,G0 P p (AtW1 P p Fin Anch) k g w)(M:∀g w,GI p w->aS g w->∃r,Tree P E_ (Rl p (λ_=>False)) (DW p (λ_=>False)) (iy p AtR val (λ_=>False)) r (λ_=>False) g w)(E:0<W)(J:W+e<2147483647){μ:Mu}{L:Machine}(h:Inv P p AtR z val W aS job Fin Anch e μ L t):Fb P p AtR z val W aS job Fin Anch e μ (stepT P L) t:=by
 obtain⟨gs,w,sl,n,D,tag,f,d0,a,st,sm,cl,rfl,s,l,c,v,y,u,b,rfl⟩:=h;have hn:=b.few
 have F:∀g∈gs,awake g:=by
  intro g B;obtain⟨i,hi,rfl⟩:=Zm.1 B;rcases Vu i with rfl|j
  ·have C:gs[0]=a:=by simpa[Tf hi]using s
   rw[C]
   by_cases K:waits tag
   ·cases l with
    |gY=>intro t h;cases h
    |blk=>intro t h;cases h
    |_=>exact K.elim
   ·exact awake_of (.inl (l.running o c.gi K))
  ·obtain⟨x,N,I⟩:=c.wk i j (by rw[<-c.size];exact hi);have C:gs[i]=x:=by simpa[Tf hi]using N
   rw[C];rcases I.status A.run c.gi with h|⟨h,_⟩|⟨Q,rfl,_⟩
   ·exact awake_of (.inl h)
   ·exact awake_of (.inr (.inr h))
   ·intro t h;cases h
 obtain⟨i,g,d,O,hi,B,H⟩:=crowd_pick F (someone A.run o E s l c b);rw[H];have m:=l.rely (Rl.at c.gi d);rcases Vu i with rfl|j
 ·obtain rfl:g=a:=by rw[s]at hi;exact(Uj hi).symm
  exact aX9 A q M o7 s m (c.at d) v y u b B
 ·have G:i<n:=by rw[<-c.size];exact(Sb.1 hi).1
  exact .inr (workerStep A o o7 s m (c.at d) v y u b j G hi B)
def pool(u:Work P p AtR z val job)(i:∀g w,Anch g w->g.status=.running)(b:∀g w,GI p w->Anch g w->∃k,G0 P p (AtW1 P p Fin Anch) k g w)(s:∀g w,GI p w->aS g w->∃r,Tree P E_ (Rl p (λ_=>False)) (DW p (λ_=>False)) (iy p AtR val (λ_=>False)) r (λ_=>False) g w)(j:0<W)(d:W+e<2147483647):
  ∀(μ:Mu) (o:Machine) (t:Trace),Inv P p AtR z val W aS job Fin Anch e μ o t->∃N a t',runNT P N o t=(.next a,t')/\Final P p val Fin (W+e) a t':=by
 intro μ
 induction aY6.apply μ with
 |intro μ _ x=>
  intro o t h;rcases bB7 u i b s j d h with⟨q,c,n,l⟩|⟨q,c,μ',n,m,f⟩
  ·exact⟨1,q,t++c,by simp only[runNT,n],l⟩
  ·obtain⟨N,a,t',v,l⟩:=x μ' m q (t++c) f;exact⟨N+1,a,t',by simp only[runNT,n];exact v,l⟩
end
section
open Go.Rn hiding KK
open Go.Conc hiding served
open Go.ConcR (KK WgAt stA smA rd wr mk Payload again_blocked g_of_ofEvents loc_of_ofEvent ofEvent_loc_mark Bk ofEvent_mk deafBehind_cons deafBehind_one)
open Go.ConcN (sumTo sumTo_upd sumTo_congr upd upd_same upd_ne sumTo_le le_sumTo RelBy RelBy.new RelBy.book bk_cell Deaf_absent)
variable {t:Trace} {B i:Nat} {x:Touch} {Sh U:Loc->Prop} {NR:Addr->Prop} {n B':Nat} {pos:String} {es:Array K_}
def High(B:Nat)(l:Loc):Prop:=(∃a,l=.cell a/\B<=a.block)\/∃r,l=.obj r/\B<=r
structure Fr(Sh U:Loc->Prop)(NR:Addr->Prop)(n B:Nat)(t:Trace):Prop where
 past:Past Sh B t
 quiet:Quiet Sh t
 gs:∀(i:Nat) (op:MemOp),t[i]? = A_ op->op.g<n
 un:∀i x,W_ t i=A_ x->¬U x.loc
 nr:∀a,NR a->NoRelease a t
structure nE(Sh U:Loc->Prop)(NR:Addr->Prop)(B:Nat)(e:K_):Prop where
 ok:∀x,(Td e).touch? = A_ x->¬Sh x.loc/\¬U x.loc
 FX:e.loc≠.mark .disable
 Gd:e.loc≠.mark .enable
 rel:∀a,NR a->e.loc≠.mark (.release a)
 low:(Td e).low B
def aEs(h:∀b∈t,b.act.low B)(c:W_ t i=A_ x):x.loc.low B:=by
 obtain⟨b,ho,a⟩:=YM c;have:=h b (Ut ho);cases ha:b.act with
 |access ev=>
  rw[ha]at this a;simp only[VH,Sk]at a;subst a;exact this
 |mark mm=>
  rw[ha]at this a;cases mm<;>simp only[VH]at a<;>first|(cases a;done)|(simp only[Sk]at a;subst a;exact this)
 |_=>rw[ha]at a;cases a
def aEr{l:Loc}(h:l.low B)(k:High B l):False:=by
 rcases k with⟨a,rfl,k⟩|⟨r,rfl,k⟩
 ·have:a.block<B:=h;omega
 ·have:r<B:=h;omega
def aZw(h:∀c∈t,c.act.low B){a:Addr}(d:B<=a.block):NoRelease a t:=by
 intro i hi;unfold Trace.act? at hi;obtain⟨c,ho,b⟩:=Ul.1 hi;have:=h c (Ut ho);rw[b]at this;have:a.block<B:=this;omega
def Fr.of{b:Loc->Prop}(hp:Past Sh B t)(m:Quiet Sh t)(j:∀(i:Nat) (d:MemOp),t[i]? = A_ d->d.g<n)(h1:∀l,Sh l->b l)(h2:∀l,b l->Sh l\/High B l)(h3:∀l,U l->High B l)(f:∀a,NR a->B<=a.block):Fr b U NR n B t:=by
 refine⟨⟨hp.clean,λi a e k=>(hp.known i a e k).imp id λh=>⟨h1 _ h.1,h.2⟩,hp.over,hp.hears,hp.seen⟩,λi d x hi c o=>?_,j,λi x c p=>aEr (aEs hp.seen c) (h3 _ p),λa e=>aZw hp.seen (f a e)⟩;rcases h2 _ o with h|h
 ·exact m i d x hi c h
 ·exact(aEr (aEs hp.seen (by rw[ZG hi];exact c)) h).elim
def aJr{u:Trace}(h:∀i x,W_ t i=A_ x->¬U x.loc)(e:∀d∈u,∀x,d.act.touch? = A_ x->¬U x.loc)(i:Nat)(x:Touch)(f:W_ (t++u) i=A_ x):¬U x.loc:=by
 obtain⟨d,ho,a⟩:=YM f;rcases TH ho with⟨_,b⟩|⟨_,c⟩
 ·exact h i x (by rw[ZG b];exact a)
 ·exact e d c x a
def Fr.own(h:Fr Sh U NR n B t)(hn:0<n)(o:B<=B'){fn:XG}(b:∀e∈es,nE Sh U NR B' e):Fr Sh U NR n B' (t++Uw 0 fn pos es):=by
 refine⟨(h.past.mono o).own λe c=>⟨λx f l=>((b e c).ok x f).1 l |>.elim,(b e c).FX,(b e c).Gd,(b e c).low⟩,h.quiet.app λg d x f l=>?_,λi g hi=>?_,aJr h.un λg d x f=>?_,λa m=>(h.nr a m).app λg d p=>?_⟩
 ·obtain⟨e,c,rfl⟩:=VG d;exact(((b e c).ok x f).1 l).elim
 ·rcases TH hi with⟨_,j⟩|⟨_,k⟩
  ·exact h.gs i g j
  ·obtain⟨e,c,rfl⟩:=VG k;exact hn
 ·obtain⟨e,c,rfl⟩:=VG d;exact((b e c).ok x f).2
 ·obtain⟨e,c,rfl⟩:=VG d;exact(b e c).rel a m (loc_of_ofEvent p)
def aY9{e:K_}(h:e.mute=G_)(a:Addr):Td e≠.mark (.release a):=by
 obtain⟨loc,wr,b⟩:=e;cases loc<;>simp_all [Event.mute,Td];rintro rfl
 simp_all
def Fr.mute(h:Fr Sh U NR n B t){g:Nat}(p:g≠0)(hn:g<n){fn:XG}(m:∀e∈es,e.mute=G_):Fr Sh U NR n B (t++Uw g fn pos es):=by
 have d:∀c∈Uw g fn pos es,c.act.touch? = B_:=λc b=>by
  obtain⟨e,j,rfl⟩:=VG b;exact touch_mute (m e j)
 refine⟨h.past.mute p m,h.quiet.app λc b x f r=>(by rw[d c b]at f;cases f),λi c hi=>?_,aJr h.un λc b x f=>(by rw[d c b]at f;cases f),λa o=>(h.nr a o).app λc b q=>?_⟩
 ·rcases TH hi with⟨_,k⟩|⟨_,l⟩
  ·exact h.gs i c k
  ·obtain⟨e,j,rfl⟩:=VG l;exact hn
 ·obtain⟨e,j,rfl⟩:=VG b;exact aY9 (m e j) a q
def beside{P:TB}{D:(Nat->Prop)->C_->C_->Array K_->Prop}{Stop:(Nat->Prop)->H_->C_->Prop}(hD:∀S w w' es,D S w w' es->w.heap.size<=w'.heap.size/\∀e∈es,nE Sh U NR w'.heap.size e)(a0:∀S g w d,Stop S g (World.at w d)->Stop S g w):
  ∀(r:Rk) (M:Nat) (S:Nat->Prop) (gs:Array H_) (a:H_) (w:C_) (sl:Option (Nat×Nat)) (t:Trace) (q:Nat->Nat),sumTo gs.size q<=M->gs[0]? = A_ a->Leavers P t gs q->Fr Sh U NR gs.size w.heap.size t->
   Tree P G_ (λ_=>AtRel) D Stop r S a w->
   ∃(N:Nat) (b:Array H_) (a':H_) (w':C_) (n:Option (Nat×Nat)) (t':Trace) (q':Nat->Nat) (S':Nat->Prop),
    runNT P N (crowd gs w sl) t=(.next (crowd b w' n),t')/\b.size=gs.size/\b[0]? = A_ a'/\Stop S' a' w'/\Leavers P t' b q'/\Fr Sh U NR b.size w'.heap.size t':=by
 intro r
 induction Oj r with
 |intro r _ a5=>
  intro M
  induction M using Nat.strongRecOn with
  |ind M ihM=>
   intro S gs a w sl t q hM h0 u T Y;cases r with
   |zero=>exact⟨0,gs,a,w,sl,t,q,S,rfl,rfl,h0,Y w (atRel_refl w),u,T⟩
   |nu f=>
    have J:=λd=>Tree.rely (P:=P) (main:=G_) (R:=λ_=>AtRel) (D:=D) (Stop:=Stop) (λ_=>atRel_trans) Y ⟨d,rfl⟩
    rcases Y w (atRel_refl w)with l|⟨p,_⟩
    ·exact⟨0,gs,a,w,sl,t,q,S,rfl,rfl,h0,l,u,T⟩
    have a1:∀g∈gs,awake g:=by
     intro g Q;obtain⟨i,hi,rfl⟩:=Zm.1 Q;rcases Vu i with rfl|o
     ·have:gs[0]=a:=by simpa[Tf hi]using h0
      rw[this];exact awake_of (.inl p)
     ·exact awake_of ((u.old i _ o (Tf hi)).status.elim .inl λx=>.inr (.inr x))
    obtain⟨i,g,d,n,hi,Q,W⟩:=crowd_pick (P:=P) (w:=w) (sl:=sl) a1 ⟨0,a,h0,p⟩;have A:0<gs.size:=(Sb.1 h0).1;rcases Vu i with rfl|o
    ·obtain rfl:g=a:=by rw[h0]at hi;exact(Uj hi).symm
     rcases Y (w.at d) ⟨d,rfl⟩with l|⟨_,a',w',es,a2,hd,Z⟩
     ·exact⟨0,gs,g,w,sl,t,q,S,rfl,rfl,h0,a0 _ _ _ _ l,u,T⟩
     ·have h:=runT_crowd_go (sl:=n) (i:=0) hi (show stepG P (0 == 0) g (w.at d)=_ from a2);have m:((gs.map (woken P g a' w')).setIfInBounds 0 a').size=gs.size:=by simp
      obtain⟨N,b,B,O,s,t',q',S',hr,K,C,hS,E,F⟩:=a5 (f (w.at d)) (.of f _) _ _ ((gs.map (woken P g a' w')).setIfInBounds 0 a') a' w' n (t++Uw 0 g.frame.fn g.frame.place es) q (RQ _) (by simp[A])
       ⟨λj x v L=>by
        have H:0≠j:=by omega
        rw[Sg H,VL]at L;obtain⟨y,hy,rfl⟩:=Ul.1 L;have I:=u.old j y v hy;rw[woken_quitsD I,X_ t o7 _ (λop c=>by obtain⟨e,_,rfl⟩:=VG c;rfl)];exact I,λj v=>by
        rw[X_ t (g':=0) (by simp at v;omega) _ (λop c=>by obtain⟨e,_,rfl⟩:=VG c;rfl)];exact u.above j (by simpa using v)⟩
       (by rw[m];exact T.own A (hD _ _ _ _ hd).1 (hD _ _ _ _ hd).2) Z
      exact⟨N+1,b,B,O,s,t',q',S',by simp only[runNT,W,h];exact hr,K.trans m,C,hS,E,F⟩
    ·have I:=u.old i g o hi;have a3:(i == 0)=E_:=by simp;omega
     have G:i<gs.size:=(Sb.1 hi).1;cases hqi:q i with
     |zero=>rw[hqi]at I;rw[I.1]at Q;cases Q
     |succ k=>
      rw[hqi]at I;rcases I with⟨hf,_⟩|⟨_,g',es,hm,X,a4⟩
      ·rw[hf]at Q;cases Q
      have h:=runT_crowd_go (sl:=n) hi (by rw[a3];exact X (w.at d));have m:((gs.map (woken P g g' (w.at d))).setIfInBounds i g').size=gs.size:=by simp
      have a6:sumTo gs.size (upd q i k)+(k+1)=sumTo gs.size q+k:=by
       have:=sumTo_upd q k id G
       simpa[hqi]using this
      obtain⟨N,b,B,O,s,t',q',S',hr,K,C,hS,E,F⟩:=ihM (sumTo gs.size (upd q i k)) o7 S ((gs.map (woken P g g' (w.at d))).setIfInBounds i g') a (w.at d) n (t++Uw i g.frame.fn g.frame.place es) (upd q i k) (by rw[m];exact RQ _)
       (by
        have H:i≠0:=by omega
        rw[Sg H,VL,h0];simp[woken_run p])
       ⟨λj x v L=>by
        by_cases z:i=j
        ·subst z;rw[Xo (by simpa using G)]at L;obtain rfl:=Uj L;rw[upd_same,Deaf_own];exact a4
        ·rw[Sg z,VL]at L;obtain⟨y,hy,rfl⟩:=Ul.1 L;have V:=u.old j y v hy;rw[woken_quitsD V,upd_ne q k (Ne.symm z),X_ t z _ (λop c=>by obtain⟨e,_,rfl⟩:=VG c;rfl)];exact V,λj v=>by
        rw[X_ t (g':=i) (by simp at v;omega) _ (λop c=>by obtain⟨e,_,rfl⟩:=VG c;rfl)];exact u.above j (by simpa using v)⟩
       (by rw[m];exact T.mute o7 G hm) (J d)
      exact⟨N+1,b,B,O,s,t',q',S',by simp only[runNT,W,h];exact hr,K.trans m,C,hS,E,F⟩
end
section
open Go.Rn hiding KK
open Go.Conc hiding served
open Go.ConcR (KK WgAt stA smA rd wr mk Payload again_blocked g_of_ofEvents loc_of_ofEvent ofEvent_loc_mark Bk ofEvent_mk deafBehind_cons deafBehind_one)
variable {P:TB} {p:Place} {AtR:H_->Prop} {z:D_} {val:Nat->D_} [Payload] {W:Nat} {gs:Array H_} {w:C_} {sl:Option (Nat×Nat)} {aS:H_->C_->Prop} {job:Nat->D_} {Fin Anch:H_->C_->Prop} {a:H_} {t:Trace} {q:Nat->Nat}
def JM(p:Place)(l:Loc):Prop:=∃x,l=.cell x/\x.block=p.An
abbrev JV(p:Place)(n B:Nat)(t:Trace):Prop:=Fr (dX p) (JM p) (λx=>x=stA p.Wg) n B t
def Inv.start(h0:gs[0]? = A_ a)(G:Leavers P t gs q)(c:JV p gs.size w.heap.size t)(E:GI p w)(D:WgAt p.ty p.Wg w 0 0)(s:gU p E_ w)(N:0<W)(C:Sp P p W aS job Anch W a w):
  ∃μ,Inv P p AtR z val W aS job Fin Anch gs.size μ (crowd gs w sl) t:=by
 obtain⟨r,rfl⟩:∃r,W=r+1:=⟨W - 1,by omega⟩;obtain⟨f,v⟩:=C;have n:0<gs.size:=(Sb.1 h0).1;have B:∀j,¬Hd p.m (.nQ r) j:=λj h=>by simp only[Hd,left]at h;omega
 refine⟨_,gs,w,sl,gs.size,λk=>⟨0,ZA (q k),Deaf t k,λ_=>False,λ_=>False⟩,.nQ r,f,0,a,0,0,E_,rfl,h0,.nQ o7 v,⟨rfl,E,λk M kn=>?_,rfl,λ_ _ _=>rfl,λk h1 h2=>by omega,⟨n,RQ _,λk L b h1 h2=>by omega,λk L b h1 h2=>by omega,λk b h1 h2=>by omega⟩,λk b h1 h2=>by omega,λk j h1 h2=>by omega,λj I=>(B j I).elim⟩,?_,D,s,⟨rfl,rfl,λk h1 h2=>by omega,by omega,by simp⟩,rfl⟩
 ·exact⟨_,Tf kn,.quit (Sv 1) rfl (G.old k _ M (Tf kn)) λe=>by cases e⟩
 ·refine⟨⟨c.past.clean,c.quiet,λk h1 h2=>by omega,λk h1 h2=>by omega,λl F i x o d _=>?_,c.past.seen,λi x y o d K=>(c.un i x o ⟨y,d,K⟩).elim,c.gs⟩,c.nr _ rfl,c.past.hears,λ_ _ _=>rfl,λk h1 h2=>by omega,λi x g o J E=>(c.past.known i x o J).imp id .inl,λi g u A H=>.inl (c.past.over i g u A H)⟩;rcases c.past.known i x o (by rw[d];exact Od F)with h|⟨h,_⟩
  ·exact h
  ·exact(rdSh (d▸F) h).elim
end
end Go.Mw
