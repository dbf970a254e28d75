/- ManyWorkers -/
import Derived.Test.YtpodibeogglplaaGreatDoorVA
import Derived.Shelf.Spec.SlicesInsert
import Derived.Lib.AppendZerosOnto
open Go.RowKit Go.Shelf
open Go.Value renaming int->U, pointer->E, slice->J
open Go.IntKind renaming i64->G
open Go.Obj renaming cells->R
open Go.Ending renaming returned->Y
open Go.Proofs.Tryz
open Array renaming replicate_succ->Vp, replicate_zero->Vq, length_toList->UH, getElem?_toList->Yl, getElem?_eq_some_iff->Sb, getElem?_eq_none->Te
open Bool renaming false->E_, true->G_, and_eq_true->SV, or_eq_true->XD
open Go renaming World->C_, TypeId->RZ, Program->TB, Value->D_, lt_of_block->SK, Calls->Sj, info_parts->Vw, callsIn_wide->UY, callsIn_of_wp_marks->ZX, heap_alloc_new->RU, run_takeDeferred->ZQ, cell_later->Y_
open Go.Builtin renaming zeroCells->Un
open Go.Instr renaming lookup->Vx
open Go.IntWalk renaming i64_in->Vr
open Go.Proofs.YtpodibeogglplaaGreatDoor.Out renaming of_below->Sz, refl->Tz
open Go.Region renaming Mode->XW, ready->Tx, binds->Yw, noSelect->Zf, wanted->Vv
open Go.RowKit renaming Below->Sd
open Go.RowKit.Below renaming refl->RS, drew->Um, alloc->TR
open Go.Value renaming oneCell'->Vk, int->SX, ownBlock->Uf
open Go.World renaming ownsRow_nil->Uo, news_of_block->UL
open List renaming size_toArray->UQ, length_cons->SC, length_nil->Ui, push_toArray->Uv, append_toArray->Vy, nil_append->Tn, cons_append->TP, length_append->Sl, takeWhile_cons->XK, append_assoc->WZ, take_append_drop->WA, length_take->Tq, take_of_length_le->UW, drop_append->ZL, drop_of_length_le->Xb, length_drop->WO, getElem?_append_right->Wj, getElem?_eq_some_iff->Uz, take_succ_cons->Xd, drop_eq_getElem_cons->Tt, range->Vj, all_eq_true->VF, mem_range->YJ
open Nat renaming reduceAdd->Ws, reduceSub->Q_, zero_le->Sv, le_trans->RV, le_succ->Uk, lt_or_ge->Us, lt_irrefl->P_
open Option renaming some->A_, none->B_
open Or renaming inr->RN, inl->RP
set_option linter.all false
set_option maxHeartbeats 4000000
set_option maxRecDepth 100000
namespace Go.Proofs.YtpodibeogglplaaGreatDoor
variable {W:C_} {t:RZ} {o:Ord} {l:List Ord} {P:TB} {i:Nat} {A B:List D_} {lo hi z:Int} {w w':C_} {bb m:Nat} {T:Nat->Prop} {k ab n:Nat} {vs vf v0 v1:D_} {rs:List aT} {fr:List Nat} {Sm:Nat->List Ly} {s:Nat} {w1:C_} {g cap:Nat} {ops:Array Oper} {Q:Exit->Act->C_->Prop} {md:XW} {S:C_->Prop} {L:Nat->Bool} {j:Nat} {v:D_} {d:Nat} {a:Act} {c:Nat}
section
attribute [local go_sem] Oper.semAt_some
def uP{a:C_}{row:Option Nat}{b:Nat}{vs:Array D_}{f:Nat×Nat}(h:W.heap[b]? = A_ (R vs t f))(d:W.grownBy a row)(g:∀r,row=A_ r->∃o:Obj,W.heap[r]? = A_ o/\o.isCells=E_):a.heap[b]? = A_ (R vs t f):=
 (d.block b (SK h) (λe=>by
  obtain⟨o,ho,c⟩:=g b e.symm;rw[h]at ho;injection ho with ho;subst ho;cases c)).trans h
def iM(W:C_)(b:Nat)(x:Ord):Prop:=W.heap[b]? = A_ (R #[U G x.id,U G x.side,U G x.kind,U G x.price,U G x.ak] 155 (0,0))
def aV4:(prog.info? 155).map (λi=>(i.zero,i.size,i.bytes))=A_ (A_ (.agg #[U G 0,U G 0,U G 0,U G 0,U G 0]),5,40):=k7
def bAd(l:List Ord)(x:Ord):oV (l++[x])=oV l++[U G x.id,U G x.side,U G x.kind,U G x.price,U G x.ak]:=by rw[BS];rfl
def aLp(i u bb ab mb nn s:Nat)(vs vf v0 v1:D_)(rs:List aT)(fr:List Nat)(S:Nat->List Ly)(E:s<2)(C:(S s).length<=1000)(L:∀x∈S s,aW rs x.slot=(A_ x.o,x.age))(w:C_)(U:dL w bb ab mb nn vs vf v0 v1 rs fr S)(B:w.heap[i]? = A_ (.cells #[.pointer (A_ ⟨bb,0,B_⟩)] 147 (0,0)))(H:w.heap[u]? = A_ (.cells #[.int .i64 s] 3 (0,0))):
  Sj prog 204 #[.slice B_ 0 0,.func (.func 205) #[] #[.pointer (A_ ⟨i,0,B_⟩),.pointer (A_ ⟨u,0,B_⟩)]] w
   λe W'=>∃v,e=.returned v/\W'.ownsRow w.heap.size 155 5 v (S s).length (oV ((S s).map Ly.o))/\Sd w.heap.size w W':=by
 obtain⟨i0,hi,N,O,P⟩:=Vw aV4;refine(UY (n:=4)).1 ?_;refine ZX func204 rfl trivial ?_ rfl;simp only[ntmps204,UQ,SC,Ui,Ws,Q_,Vp,Vq,Uv,Vy,Tn,TP]
 gi_wp2_with fail
 have R:=Boxed.new w 127 (.slice B_ 0 0);have f:=aM w (.cells #[.slice B_ 0 0] 127);have HK:∀k,vw bb ab mb vs vf v0 v1 k->k<w.heap.size:=λk hk=>U.lt hk
 have Q:=SK B;obtain⟨W0,m⟩:∃W0,w.alloc (.cells #[.slice B_ 0 0] 127)=W0:=⟨_,rfl⟩;have a4:W0.heap.size=w.heap.size+1:=by rw[<-m];simp
 rw[m]at R f⊢;clear m
 refine wpIn_rangeFunc_ownH (F:=Fence.wide) (n:=4) rfl d7 (gf:=205) (lb:=#[.pointer (A_ ⟨i,0,B_⟩),.pointer (A_ ⟨u,0,B_⟩)]) rfl trivial (enters_of func205 k7 rfl)
  (MJ 3 d7 i u w.heap.size bb ab mb nn s vs vf v0 v1 rs fr S E C L HK W0 o7 (U.below f au) (aL B f au) (aL H f au)) Mt (Ms o7) (RS _ _) (λ_=>rfl)
  (λd W=>(∃v,Boxed W w.heap.size 127 v/\W.ownsRow w.heap.size 155 5 v d.length (oV d)/\True)/\Sd w.heap.size w W)
  (λ_ _ _=>False)
  (OwnFrom.and (Own.from (holdsRow_own w.heap.size w.heap.size 127 155 5 (λd=>d.length) (λd=>oV d) (λ_ _=>True)) _) (ownFrom_below au o7))
  (λ_ _ _ _ _ E _ _=>E)
  ⟨⟨_,R,Uo _ _ _ _,trivial⟩,f⟩
  (λx a' W=>∃y,w.heap.size<y/\iM W y x/\a'={ tmps:=#[.slice B_ 0 0,.func (.func 205) #[] #[.pointer (A_ ⟨i,0,B_⟩),.pointer (A_ ⟨u,0,B_⟩)],.pointer (A_ ⟨w.heap.size,0,B_⟩),undef,.slice B_ 0 0,.pointer (A_ ⟨y,0,B_⟩),.func (.func 205) #[] #[.pointer (A_ ⟨i,0,B_⟩),.pointer (A_ ⟨u,0,B_⟩)],Ord.agg x,undef,undef,undef,undef,undef],defers:=[] })
  (λx a' _ X Y row E hg V=>by obtain⟨y,h1,h2,h3⟩:=E;exact⟨y,h1,uP h2 hg (λr e=>(V r e).2),h3⟩)
  ?assign ?body ?done ?stop
 case assign=>
  rintro l d x W K ⟨⟨v,hv,a,_⟩,b⟩ z;unfold Ord.agg at z⊢
  gi_wp2
  refine z _ _ ((KeepsOthers.alloc _ _).from _) (kG.of_below (aM _ _) b.size) ⟨⟨v,hv.alloc _,a.alloc _,trivial⟩,b.alloc b.size _⟩ ⟨W.heap.size,hv.lt,RU _ _,rfl⟩
 case body=>
  rintro l d x a' W hl ⟨r,V⟩ ⟨⟨v,hv,a,_⟩,b⟩ ⟨y,a0,A,rfl⟩ a3;have hc:=hv.cell;have c0:=aj (j:=0) A rfl;have c1:=aj (j:=1) A rfl;have c2:=aj (j:=2) A rfl;have c3:=aj (j:=3) A rfl;have c4:=aj (j:=4) A rfl;have Z:=b.size;unfold Ord.agg
  gi_wp2_with (gi_at_builtin;refine wpListIn_append_own _ rfl _ _ 127 rfl w.heap.size 155 i0 (.agg #[.int .i64 0,.int .i64 0,.int .i64 0,.int .i64 0,.int .i64 0]) 5 40 underlying127 hi N O P rfl d7 _ _ _ rfl (a.alloc _) ⟨W.heap.size,0,B_⟩ 1 1 [.int .i64 x.id,.int .i64 x.side,.int .i64 x.kind,.int .i64 x.price,.int .i64 x.ak] rfl rfl (UL (cs:=#[.int .i64 x.id,.int .i64 x.side,.int .i64 x.kind,.int .i64 x.price,.int .i64 x.ak]) (t:=155) (fr:=(0,0)) (RU W _)) (by simp[Vk]) (by unfold maxLen;omega) o7 (by simp;omega) ?_;intro v' w1 g q _;obtain⟨g',T,rfl⟩:=ownsRow_succ g;obtain⟨G,M,J,I,p⟩:=hv.appended d7 a b.size au g q;have a1:=G.cell;have a2:=G.frozen)
  exact⟨I.from _,⟨p,λ_ _ e=>(p.block i Q).trans e⟩,⟨_,M,by rw[bAd,Sl];exact J,trivial⟩,b.trans p⟩
 case done=>
  rintro D ys W hD rfl ⟨⟨v,hv,a,_⟩,b⟩ z;have hc:=hv.cell
  gi_wp2
  refine⟨by simp,.inl ⟨_,_,rfl,ZQ z,?_⟩⟩;exact⟨_,results_tmp rfl _ _ _,v,rfl,by simpa using ownsRow_putObj a _ z rfl,b.trans (belowK_b (w:=w) au W D _ _ o7 z rfl rfl)⟩
 case stop=>
  rintro D c d W _ _ h _;exact h.elim
def aOh(f g bb ab mb nn s:Nat)(vs vf v0 v1:D_)(rs:List aT)(fr:List Nat)(S:Nat->List Ly)(p:s<2)(c:(S s).length<=1000)(d:∀x∈S s,aW rs x.slot=(A_ x.o,x.age))(w:C_)(i:dL w bb ab mb nn vs vf v0 v1 rs fr S)(a:w.heap[f]? = A_ (R #[E (A_ ⟨bb,0,B_⟩)] 147 (0,0)))(b:w.heap[g]? = A_ (R #[U G s] 3 (0,0))):
  Sj prog 163 #[.func (.func 205) #[] #[E (A_ ⟨f,0,B_⟩),E (A_ ⟨g,0,B_⟩)]] w
   λe W'=>∃v,e=Y v/\W'.ownsRow w.heap.size 155 5 v (S s).length (oV ((S s).map Ly.o))/\Sd w.heap.size w W':=by
 have H:=ah i;have n:=ah d;have l:Hid _:=a;have m:Hid _:=b;clear i a b d;go_enter func163,ntmps163;go_wp2_with fail;refine(aLp f g bb ab mb nn s vs vf v0 v1 rs fr S p c n.out w H.out l.out m.out).mono ?_;rintro e w1 ⟨v,rfl,h1,h2⟩;have j:Hid _:=h1;have k:Hid _:=h2;clear h1 h2;go_wp2;go_ret;exact⟨v,rfl,j.out,k.out⟩
def bBw(bb ab mb nn s:Nat)(vs vf v0 v1:D_)(rs:List aT)(fr:List Nat)(S:Nat->List Ly)(p:s<2)(f:(S s).length<=1000)(j:∀x∈S s,aW rs x.slot=(A_ x.o,x.age))(w:C_)(m:dL w bb ab mb nn vs vf v0 v1 rs fr S)(side:Int)(d:side=(s:Int)+1):
  Sj prog 117 #[E (A_ ⟨bb,0,B_⟩),U G side] w
   λe W'=>∃v,e=Y (.tuple #[v,.nilIface])/\W'.ownsRow w.heap.size 155 5 v (S s).length (oV ((S s).map Ly.o))/\Sd w.heap.size w W':=by
 have i:(side == 1 || side == 2)=G_:=by
  subst d
  match s,p with
  |0,_=>rfl
  |1,_=>rfl
 have t:=ah i;have q:IntKind.i64.wrap (side - 1)=(s:Int):=by rw[d,show(s:Int)+1 - 1=s by omega];exact Vr _ o7
 have H:=ah m;have y:=ah j;have u:=ah d;clear m i j d;go_enter func117,ntmps117;go_wp2_with fail;refine(GX side _).mono ?_;rintro e w1 ⟨rfl,k⟩;replace k:=k.symm;subst k;rw[t.out];go_wp2_with fail;refine(MK bb _ _).mono ?_;rintro e w1 ⟨rfl,rfl⟩;go_wp2_with fail;have n:=gu w (R #[E (A_ ⟨bb,0,B_⟩)] 147) (R #[U G s] 3);refine(aOh w.heap.size (w.heap.size+1) bb ab mb nn s vs vf v0 v1 rs fr S p f y.out _ (H.out.below n au) (rz w _ _) (pR w _ _)).mono ?_;rintro e w2 ⟨v,rfl,h1,h2⟩;have l:Hid _:=h1;have r:Hid _:=h2;clear h1 h2;go_wp2;go_ret2;exact⟨v,rfl,⟨l.out.1,l.out.2.imp id (λ⟨g,cap,cur,a,b,c⟩=>⟨g,cap,cur,a,by simp at b;omega,c⟩)⟩,aJ n r.out⟩
def lZ(o x:Ord):Bool:=if x.kind=2 then E_ else if o.kind=2 then G_ else if o.side=1 then decide (x.price<o.price)else decide (o.price<x.price)
def iW(o:Ord)(l:List Ord):Nat:=(l.takeWhile λy=>!lZ o y).length
def bDd(o:Ord)(l:List Ord):iW o l<=l.length:=(List.takeWhile_prefix _).length_le
def bDb(h:∀y∈l,lZ o y=E_):iW o l=l.length:=by
 unfold iW
 congr 1
 induction l with
 |nil=>rfl
 |cons a l ih=>rw[XK,h a s7];simp[ih (λy b=>h y (by simp[b]))]
def bDe{x:Ord}{p:List Ord}(b:p++[x] <+:l)(h:∀y∈p,lZ o y=E_)(c:lZ o x=G_):iW o l=p.length:=by
 obtain⟨r,rfl⟩:=b;unfold iW;rw[WZ]
 induction p with
 |nil=>simp[c]
 |cons a p ih=>rw[TP,XK,h a s7];simp;simpa using ih (λy d=>h y (by simp[d]))
def aDu{W':C_}(h:Sd W.heap.size W W'):KeepsOthers W W':=KeepsOthers.of_grownBy (GD h) (λj o e=>by cases e)
def aMu(o x:Ord)(w:C_):Sj prog 245 #[o.agg,x.agg] w λe w'=>e=Y (.bool (lZ o x))/\Sd w.heap.size w w':=by
 unfold Ord.agg
 by_cases h1:x.kind=2
 ·have a:Hid (lZ o x=E_):=RF h1;go_enter func245,ntmps245;go_wp2;go_ret;exact⟨by rw[a.out];rfl,gu _ _ _⟩
 have b:=RG.2 h1
 by_cases h2:o.kind=2
 ·have a:Hid (lZ o x=G_):=by show _=_;unfold lZ;rw[RD h1,RF h2]
  clear h1;go_enter func245,ntmps245;go_wp2;go_ret;exact⟨by rw[a.out];rfl,gu _ _ _⟩
 have c:=RG.2 h2
 by_cases h3:o.side=1
 ·have a:Hid (lZ o x=decide (x.price<o.price)):=by show _=_;unfold lZ;rw[RD h1,RD h2,RF h3]
  clear h1 h2;go_enter func245,ntmps245;go_wp2;go_ret;exact⟨by rw[a.out];rfl,gu _ _ _⟩
 have d:=RG.2 h3;have a:Hid (lZ o x=decide (o.price<x.price)):=by show _=_;unfold lZ;rw[RD h1,RD h2,RD h3]
 clear h1 h2 h3;go_enter func245,ntmps245;go_wp2;go_ret;exact⟨by rw[a.out];rfl,gu _ _ _⟩
def bDf(bb ab mb nn s:Nat)(vs vf v0 v1:D_)(rs:List aT)(fr:List Nat)(S:Nat->List Ly)(o:Ord)(m:s<2)(L:(S s).length<=1000)(T:∀x∈S s,aW rs x.slot=(A_ x.o,x.age))(w:C_)(V:dL w bb ab mb nn vs vf v0 v1 rs fr S):
  Sj prog 229 #[.pointer (A_ ⟨bb,0,B_⟩),.int .i64 s,o.agg] w λe W'=>e=.returned (.int .i64 (iW o ((S s).map Ly.o)))/\Sd w.heap.size w W':=by
 refine(UY (n:=4)).1 ?_;unfold Ord.agg;refine ZX func229 rfl trivial ?_ rfl;simp only[ntmps229,UQ,SC,Ui,Ws,Q_,Vp,Vq,Uv,Vy,Tn,TP]
 gi_wp2_with fail
 refine⟨trivial,(UY.2 (MK bb _ _)).mono ?_⟩;rintro e w' ⟨rfl,rfl⟩
 gi_wp2_with fail
 have z:=gu w (.cells #[.int .i64 o.id,.int .i64 o.side,.int .i64 o.kind,.int .i64 o.price,.int .i64 o.ak] 155) (.cells #[.int .i64 0] 3);have O:=rz w (.cells #[.int .i64 o.id,.int .i64 o.side,.int .i64 o.kind,.int .i64 o.price,.int .i64 o.ak] 155) (.cells #[.int .i64 0] 3);have N:=pR w (.cells #[.int .i64 o.id,.int .i64 o.side,.int .i64 o.kind,.int .i64 o.price,.int .i64 o.ak] 155) (.cells #[.int .i64 0] 3);obtain⟨w2,E⟩:∃w2,(w.alloc (.cells #[.int .i64 o.id,.int .i64 o.side,.int .i64 o.kind,.int .i64 o.price,.int .i64 o.ak] 155)).alloc (.cells #[.int .i64 0] 3)=w2:=⟨_,rfl⟩;have U:w2.heap.size=w.heap.size+2:=by rw[<-E];simp
 rw[E]at z O N⊢;clear E;have g:=gu w2 (.cells #[.pointer (A_ ⟨bb,0,B_⟩)] 147) (.cells #[.int .i64 s] 3);have P:=rz w2 (.cells #[.pointer (A_ ⟨bb,0,B_⟩)] 147) (.cells #[.int .i64 s] 3);have Q:=pR w2 (.cells #[.pointer (A_ ⟨bb,0,B_⟩)] 147) (.cells #[.int .i64 s] 3);obtain⟨W0,C⟩:∃W0,(w2.alloc (.cells #[.pointer (A_ ⟨bb,0,B_⟩)] 147)).alloc (.cells #[.int .i64 s] 3)=W0:=⟨_,rfl⟩;have a1:W0.heap.size=w.heap.size+4:=by rw[<-C];simp;omega
 rw[C]at g P Q⊢;clear C;have O:=aL O g au;have N:=aL N g au;have J:=aJ z g;rw[U]at P Q;have HK:∀k,vw bb ab mb vs vf v0 v1 k->k<w.heap.size:=λk hk=>V.lt hk
 clear z g
 refine wpIn_rangeFunc_ownH (F:=Fence.wide) (n:=4) rfl d7 (gf:=205) (lb:=#[.pointer (A_ ⟨w.heap.size+2,0,B_⟩),.pointer (A_ ⟨w.heap.size+2+1,0,B_⟩)]) rfl trivial (enters_of func205 k7 rfl)
  (MJ 3 d7 (w.heap.size+2) (w.heap.size+2+1) w.heap.size bb ab mb nn s vs vf v0 v1 rs fr S m L T HK W0 o7 (V.below J au) P Q) Mt (Ms o7) (RS _ _) (λ_=>rfl)
  (λd W=>(iM W w.heap.size o/\W.heap[w.heap.size+1]? = A_ (.cells #[.int .i64 d.length] 3 (0,0))/\(∀y∈d,lZ o y=E_))/\Sd w.heap.size w W)
  (λc d W=>(c=.exit 0/\∃p x,d=p++[x]/\(∀y∈p,lZ o y=E_)/\lZ o x=G_/\W.heap[w.heap.size+1]? = A_ (.cells #[.int .i64 p.length] 3 (0,0)))/\Sd w.heap.size w W)
  (OwnFrom.and (Own.from (λs A B row m H u=>⟨uP m.1 H u,uP m.2.1 H u,m.2.2⟩) _) (ownFrom_below au o7))
  (λc=>OwnFrom.and (Own.from (λs A B row m H u=>by obtain⟨g0,p,x,g1,g2,g3,g4⟩:=m;exact⟨g0,p,x,g1,g2,g3,uP g4 H u⟩) _) (ownFrom_below au o7))
  ⟨⟨O,N,λy v=>by cases v⟩,J⟩
  (λx a' W=>∃I,iM W I x/\a'={ tmps:=#[.pointer (A_ ⟨bb,0,B_⟩),.int .i64 s,Ord.agg o,undef,undef,.pointer (A_ ⟨w.heap.size,0,B_⟩),.int .i64 0,.pointer (A_ ⟨w.heap.size+1,0,B_⟩),.pointer (A_ ⟨I,0,B_⟩),.pointer (A_ ⟨bb,0,B_⟩),.int .i64 s,.func (.func 205) #[] #[.pointer (A_ ⟨w.heap.size+2,0,B_⟩),.pointer (A_ ⟨w.heap.size+2+1,0,B_⟩)],Ord.agg x,undef,undef,undef,undef,undef,undef],defers:=[] })
  (λx a' _ X Y row m H u=>by obtain⟨I,h2,h3⟩:=m;exact⟨I,uP h2 H (λr e=>(u r e).2),h3⟩)
  ?assign ?body ?done ?stop
 case assign=>
  rintro l d x W K ⟨⟨h1,h2,h3⟩,a⟩ q;have lS:=a.size;unfold Ord.agg at q⊢
  gi_wp2
  refine q _ _ ((KeepsOthers.alloc _ _).from _) (kG.of_below (aM _ _) lS) ⟨⟨aL h1 (aM _ _) au,aL h2 (aM _ _) au,h3⟩,a.alloc a.size _⟩ ⟨W.heap.size,RU _ _,rfl⟩
 case body=>
  rintro l d x a' W hl ⟨r,u⟩ ⟨⟨h1,h2,h3⟩,a⟩ ⟨I,G,rfl⟩ a0;have c0:=aj (j:=0) G rfl;have c1:=aj (j:=1) G rfl;have c2:=aj (j:=2) G rfl;have c3:=aj (j:=3) G rfl;have c4:=aj (j:=4) G rfl;have d0:=aj (j:=0) h1 rfl;have d1:=aj (j:=1) h1 rfl;have d2:=aj (j:=2) h1 rfl;have d3:=aj (j:=3) h1 rfl;have d4:=aj (j:=4) h1 rfl;have Z:Hid _:=h1;have H2:Hid _:=h2;have f:=ah a;clear h1 h2 a G u;unfold Ord.agg
  gi_wp2_with fail
  refine⟨trivial,(CallsIn.inRound l (UY.2 (aMu o x _))).mono ?_⟩;rintro e W1 ⟨rfl,b⟩;have i:=aL H2.out b au;have e0:=aj (j:=0) i rfl;have e1:=aI (j:=0) i;cases hbt:lZ o x with
  |true=>
   gi_wp2_with fail
   exact⟨(aDu b).from _,⟨rfl,d,x,rfl,h3,hbt,i⟩,f.out.trans (b.mono f.out.size)⟩
  |false=>
   gi_wp2_with fail
   have R:=aL Z.out b au;refine⟨((aDu b).trans (KeepsOthers.setCell _ _ _)).from _,⟨(b.mono f.out.size).setCell (p:=⟨w.heap.size+1,0,B_⟩) s7 _,λvs t e=>?_⟩,⟨aH R (bL _ ⟨w.heap.size+1,0,B_⟩ _) s7,?_,λy v=>?_⟩,(f.out.trans (b.mono f.out.size)).setCell (p:=⟨w.heap.size+1,0,B_⟩) s7 _⟩
   ·exact aH (aL e b au) (bL _ ⟨w.heap.size+1,0,B_⟩ _) s7
   ·rw[Sl];exact bg (j:=0) _ i
   ·rcases List.mem_append.1 v with v|v
    ·exact h3 y v
    ·simp at v;subst v;exact hbt
 case done=>
  rintro D ys W hD rfl ⟨⟨h1,h2,h3⟩,a⟩ q;have hc:=aj (j:=0) h2 rfl
  gi_wp2
  refine⟨by simp,.inl ⟨_,_,rfl,ZQ q,?_⟩⟩;exact⟨_,results_tmp rfl _ _ _,by rw[bDb h3,List.length_map];rfl,a.trans (belowK_b (w:=w) au W D _ _ o7 q rfl rfl)⟩
 case stop=>
  rintro D c d W hD M ⟨⟨rfl,p,x,rfl,h1,h2,h3⟩,a⟩ q;have hc:=aj (j:=0) h3 rfl
  gi_wp2
  refine⟨by simp,.inl ⟨_,_,rfl,ZQ q,?_⟩⟩;exact⟨_,results_tmp rfl _ _ _,by rw[bDe M h1 h2];rfl,a.trans (belowK_b (w:=w) au W D _ _ o7 q rfl rfl)⟩
end
def IZ(W:C_)(q y ty c:RZ)(g o e l:Nat)(a:Addr)(d f:Nat)(b:Array D_)(t:RZ)(cs:List D_)(k:Nat)(x:P.underlying q=A_ (.slice c))(s:(P.info? c).map (·.size)=A_ 2)(r:eB W g b t)(hk:Nat.min d e=k)(hn:cs.length=k*2)(n:∀j v,cs[j]? = A_ v->W.cell? (a.add j)=A_ v)(m:o+cs.length<=b.size)(h1:∀v∈cs,v.oneCell'=G_):
  ∃W',(Builtin.copy_ #[q,y] ty #[.slice (A_ ⟨g,o,B_⟩) e l,.slice (A_ a) d f]).run P W=.ok (goInt k) W'
   /\W'.heap[g]? = A_ (.cells (b.toList.take o++cs++b.toList.drop (o+cs.length)).toArray t (0,0))/\Out (λj=>j=g) W W':=by
 refine⟨W.setRow g (b.toList.take o++cs++b.toList.drop (o+cs.length)).toArray,?_,setRow_heap W g _ _ t _ r,⟨rfl,rfl,rfl,by simp[World.setRow],λj _ u=>setRow_other W g j _ u⟩⟩;have p:=run_storeCells_at P g o t cs 0 b W r (by simpa using m) h1;cases hq:P.info? c with
 |none=>simp[hq]at s
 |some i=>
  have hi:i.size=2:=by simpa[hq]using s
  have w:=run_firstCells_some (P:=P) W 2 k a d f cs hn n;simp[Builtin.copy_,run_underlying x,Builtin.lenOf,sizeOf,typeInfo,hq,hi,hk,w,p]
def aDf:(prog.info? 206).map (λi=>(i.zero,i.size,i.bytes))=A_ (A_ (.agg #[U G 0,U G 0]),2,16):=k7
def Jg:(prog.info? 206).map (·.size)=A_ 2:=k7
def bFk(w:C_):(Go.sizeOf 206).run prog w=.ok 2 w:=k7
def fG(i:Nat)(x:Ly)(l:List Ly):List Ly:=l.take i++x::l.drop i
def aDk(x:Ly){l:List Ly}(h:i<=l.length):(fG i x l).length=l.length+1:=by simp[fG];omega
def aDj(i:Nat)(x:Ly)(l:List Ly):hV (fG i x l)=hV (l.take i)++(U G x.slot::U G x.age::hV (l.drop i)):=by unfold fG;rw[LZ];rfl
def aV7(x:Ly)(l:List Ly):fG l.length x l=l++[x]:=by simp[fG]
def GJ(i:Nat)(l:List Ly):hV l=hV (l.take i)++hV (l.drop i):=by rw[<-LZ,WA]
def aVd{l:List Ly}(h:i<=l.length):(hV l).take (i*2)=hV (l.take i):=by
 rw[GJ i l,List.take_append_of_le_length (by rw[wR,Tq];omega),UW (by rw[wR,Tq];omega)]
def AL(w W':C_)(ob:Option Nat)(v':D_)(l':List Ly):Prop:=
 ∃g cap,v'=J (A_ ⟨g,0,B_⟩) l'.length cap/\W'.ownsRow 0 206 2 v' l'.length (hV l')/\Out (λk=>ob=A_ k) w W'/\(ob=A_ g\/w.heap.size<=g)
def aWa(q:Nat)(v:D_)(l:List Ly)(x:Ly)(w:C_)(j:w.ownsRow 0 206 2 v l.length (hV l))(C:l.length<=1000)(m:eB w q #[U G x.slot,U G x.age] 206):
  Sj prog 228 #[v,U G l.length,J (A_ ⟨q,0,B_⟩) 1 1] w λe u=>∃v',e=Y v'/\AL w u v.ownBlock v' (l++[x]):=by
 obtain⟨B,hi,n,o,p⟩:=Vw aDf;obtain⟨r,cap,rfl,d,z⟩:=lJ j;have s:=ah j;obtain⟨ob,b⟩:∃ob,(Value.slice r l.length cap).ownBlock=ob:=⟨_,rfl⟩;rw[b];have c:=ah b;clear j b;have D:(0:Int)<=(l.length:Int):=o7;have E:=d;go_enter func228,ntmps228;go_wp2_with (at_builtin;refine wpList_append_lies _ rfl _ _ 196 rfl 0 206 B (.agg #[U G 0,U G 0]) 2 16 underlying196 hi n o p rfl d7 (J r l.length cap) l.length (hV l) rfl s.out ⟨q,0,B_⟩ 1 1 [U G x.slot,U G x.age] rfl rfl (UL (cs:=#[U G x.slot,U G x.age]) (t:=206) (fr:=(0,0)) m) (by simp[Vk]) d7 (by unfold maxLen;omega) o7 (Sv _) w.heap.size rfl ?_;intro g y w1 f a i A)
 all_goals go_ret
 all_goals refine⟨_,rfl,g,y,by rw[Sl];rfl,?_,Out.uf a (λk hk=>c.out▸hk),(c.out▸i).imp id (λe=>by omega)⟩
 all_goals rw[Sl,List.length_singleton,LZ]
 all_goals exact f
def bD0{C:List D_}(a b:D_)(c:2<=C.length):
  (((A++(B++C)).take (A.length+2)++B++(A++(B++C)).drop (A.length+2+B.length)).take A.length++[a,b]++((A++(B++C)).take (A.length+2)++B++(A++(B++C)).drop (A.length+2+B.length)).drop (A.length+2))=A++(a::b::(B++C.drop 2)):=by
 have h1:(A++(B++C)).take (A.length+2)=A++(B++C).take 2:=by
  rw[List.take_append,UW o7]
  congr 2;omega
 have h2:(A++(B++C)).drop (A.length+2+B.length)=C.drop 2:=by
  rw[ZL,Xb o7,Tn,ZL,Xb o7,Tn]
  congr 1;omega
 have h3:((B++C).take 2).length=2:=by simp;omega
 rw[h1,h2];generalize(B++C).take 2=T at h3;simp only[WZ];rw[List.take_left',ZL,Xb o7,Tn]
 ·rw[show A.length+2 - A.length=T.length by omega,List.drop_left];rfl
 ·rfl
def aWc(s g cap i:Nat)(l:List Ly)(x:Ly)(w:C_)(V:w.ownsRow 0 206 2 (.slice (A_ ⟨g,0,B_⟩) l.length cap) l.length (hV l))(hl:l.length<=1000)(hi:i<l.length)(S:l.length+1<=cap)(k:eB w s #[U G x.slot,U G x.age] 206)(D:s≠g):
  Sj prog 228 #[J (A_ ⟨g,0,B_⟩) l.length cap,U G i,J (A_ ⟨s,0,B_⟩) 1 1] w λe X=>∃v',e=Y v'/\AL w X (A_ g) v' (fG i x l):=by
 rcases V.2 with⟨I,_⟩|⟨g',T,a,I,_,L,a0,N,f,W⟩
 ·simp at I
 simp only[Value.slice.injEq,Option.some.injEq,Addr.mk.injEq,and_true,true_and]at I;obtain⟨rfl,rfl⟩:=I;clear V;unfold maxLen at N
 have hcut:a.toList=hV (l.take i)++(hV (l.drop i)++a.toList.drop (l.length*2)):=by
  rw[<-WZ,<-GJ,<-W,WA]
 have K:(hV (l.take i)).length=i*2:=by rw[wR,Tq];omega
 have d:(hV (l.drop i)).length=(l.length - i)*2:=by rw[wR,WO]
 have M:(a.toList.drop (l.length*2)).length=(cap - l.length)*2:=by rw[WO,UH,f];omega
 have F:w.shape? s=A_ (206,2):=by simp[World.shape?,k]
 have H:w.shape? g=A_ (206,cap*2):=by simp[World.shape?,L,f]
 have O:∀lb cb,(callFunc 243 #[J (A_ ⟨s,0,B_⟩) 1 1,J (A_ ⟨g,(i+1)*2,B_⟩) lb cb]).run prog w=.ok (.value (.bool E_)) w:=λlb cb=>by
  rw[run_callFunc_extern func243 k7 k7 k7 (e:=Extern.SlicesOverlaps.overlaps #[196,196] #[4]) k7,
   Lib.run_overlaps_apart w 196 4 206 underlying196 2 bFk ⟨s,0,B_⟩ ⟨g,(i+1)*2,B_⟩ 1 1 lb cb D 206 206 2 (cap*2) F H o7 (aI k) (aI k)]
  rfl
 have n:∀j u,(hV (l.drop i))[j]? = A_ u->w.drew.cell? ((⟨g,i*2,B_⟩:Addr).add j)=A_ u:=λj u v=>by
  rw[Addr.add_lit];refine aj (w:=w) L ?_;rw[<-Yl,hcut,Wj o7,K,show i*2+j - i*2=j by omega,List.getElem?_append_left (by have:=(Uz.1 v).1;omega)];exact v
 obtain⟨Z,Q,q,r⟩:=IZ (P:=prog) w.drew 196 196 3 206 g ((i+1)*2) (l.length+1 - (i+1)) (cap - (i+1)) ⟨g,i*2,B_⟩ (l.length+1 - i) (cap - i) a 206 (hV (l.drop i)) (l.length - i)
  underlying196 Jg L (by simp only[Nat.min_def];split<;>omega) d n (by rw[d,f];omega) (aC6 _)
 have o:=aH (w:=w.drew) k r D;generalize b:(a.toList.take ((i+1)*2)++hV (l.drop i)++a.toList.drop ((i+1)*2+(hV (l.drop i)).length)).toArray=cur1 at q
 have p:cur1.size=cap*2:=by
  rw[<-b];simp[d];omega
 obtain⟨W2,R,z,E⟩:=IZ (P:=prog) Z 196 196 3 206 g (i*2) (l.length+1 - i) (cap - i) ⟨s,0,B_⟩ 1 1 cur1 206 [U G x.slot,U G x.age] 1
  underlying196 Jg q (by simp only[Nat.min_def];split<;>omega) rfl (UL (cs:=#[U G x.slot,U G x.age]) (t:=206) (fr:=(0,0)) o) (by rw[p];simp;omega) (by simp[Vk])
 have y:Hid (AL w W2 (A_ g) (J (A_ ⟨g,0,B_⟩) (l.length+1) cap) (fG i x l)):=by
  have c:=aDk x (Nat.le_of_lt hi);refine⟨g,cap,by rw[c],⟨by rw[wR],RN ⟨g,cap,_,by rw[c],Sv _,z,o7,by unfold maxLen;omega,?_,?_⟩⟩,?_,RP rfl⟩
  ·simp[p];omega
  ·have m:=bD0 (A:=hV (l.take i)) (B:=hV (l.drop i)) (C:=a.toList.drop (l.length*2)) (U G x.slot) (U G x.age) o7;rw[<-hcut,K,show i*2+2=(i+1)*2 by omega,show a.toList.take ((i+1)*2)++hV (l.drop i)++a.toList.drop ((i+1)*2+(hV (l.drop i)).length)=cur1.toList by rw[<-b]]at m;rw[show i*2 + [SX .i64 x.slot,SX .i64 x.age].length=(i+1)*2 by simp;omega];dsimp only;rw[m,aDj,c,List.take_append,UW o7,K,show(l.length+1)*2 - i*2=(hV (l.drop i)).length+1+1 by omega,Xd,Xd,List.take_left]
  ·exact(Sz (RS w.heap.size w).drew au).trans ((r.mono (λj v=>by rw[v])).trans (E.mono (λj v=>by rw[v])) (aK.refl _ _)) (aK.refl _ _)
 clear q z r E n hcut K d M F H b p o L f W;have q0:IntKind.i64.wrap ((i:Int)+1)=(i:Int)+1:=Vr _ o7;have q1:(0:Int)<=(i:Int)+1:=o7;have q2:i<=l.length:=o7;have q3:((i:Int)+1).toNat=i+1:=o7;have q4:¬(cap=i+1):=o7;have q5:(i:Int)<=(l.length:Int)+1:=o7;have q6:¬(cap=i):=o7;have a1:((i:Int) == (l.length:Int))=E_:=RG.2 o7;go_enter func228,ntmps228;go_wp2_with (simp only[O]);go_region_law (refine step_copy_runI rfl _ _ 196 196 rfl _ _ (by simp[Act.eval,Act.put]) (by simp[Act.eval,Act.put]) Q ?_);go_wp2_with (at_builtin;refine wpList_copy_runI _ rfl _ _ 196 196 rfl _ _ rfl rfl R ?_);go_ret;exact⟨_,rfl,y⟩
def aKo(n:Nat):(Un (Value.agg #[U G 0,U G 0]).cells n).toList.length=n*2:=by
 simp[Un,Value.cells]
def aU9{Z:List D_}(a b:D_):
  (((A++Z).take A.length++[a,b]++(A++Z).drop (A.length+2)).take (A.length+2)++B++((A++Z).take A.length++[a,b]++(A++Z).drop (A.length+2)).drop (A.length+2+B.length))=A++(a::b::(B++Z.drop (2+B.length))):=by
 have h1:(A++Z).take A.length++[a,b]++(A++Z).drop (A.length+2)=A++[a,b]++Z.drop 2:=by
  rw[List.take_left,ZL,Xb o7,Tn]
  congr 2;omega
 rw[h1,List.take_left' s7,ZL,Xb s7,Tn,List.drop_drop];simp
def aWb(vb g cap i:Nat)(l:List Ly)(x:Ly)(w:C_)(hr:w.ownsRow 0 206 2 (.slice (A_ ⟨g,0,B_⟩) l.length cap) l.length (hV l))(hl:l.length<=1000)(hi:i<l.length)(a4:cap<l.length+1)(S:eB w vb #[.int .i64 x.slot,.int .i64 x.age] 206):
  Sj prog 228 #[.slice (A_ ⟨g,0,B_⟩) l.length cap,.int .i64 i,.slice (A_ ⟨vb,0,B_⟩) 1 1] w λe W'=>∃v',e=.returned v'/\AL w W' (A_ g) v' (fG i x l):=by
 obtain⟨i0,a1,a5,U,T⟩:=Vw aDf;rcases hr.2 with⟨V,_⟩|⟨g',a6,r,V,_,W,a8,a7,L,ht⟩
 ·simp at V
 simp only[Value.slice.injEq,Option.some.injEq,Addr.mk.injEq,and_true,true_and]at V;obtain⟨rfl,rfl⟩:=V;clear hr;obtain rfl:cap=l.length:=by omega
 have hcut:r.toList=hV l:=by
  rw[<-ht,UW (by rw[UH,L];omega)]
 have s:(hV (l.take i)).length=i*2:=by rw[wR,Tq];omega
 have n:(hV (l.drop i)).length=(l.length - i)*2:=by rw[wR,WO]
 have p:(Builtin.firstCells i0.size i (.slice (A_ ⟨g,0,B_⟩) i l.length)).run prog w.drew=.ok (hV (l.take i)).toArray w.drew:=by
  rw[U]
  exact run_firstCells_some w.drew 2 i ⟨g,0,B_⟩ i l.length (hV (l.take i)) s (λj v X=>by
   rw[Addr.add_lit];refine aj (w:=w) W ?_;rw[<-Yl,hcut,GJ i l,Nat.zero_add,List.getElem?_append_left (Uz.1 X).1];exact X)
 have Q:(l.length:Int)+1 - (i:Int)=((l.length+1 - i:Nat):Int):=by omega
 have E:i+(l.length+1 - i)=l.length+1:=by omega
 have m:=Lib.run_append_grow_zeros w 196 3 196 206 i0 _ .i64 .i64 underlying196 underlying3 a1 a5 (A_ ⟨g,0,B_⟩) i l.length (hV (l.take i)) p (l.length+1 - i) (by omega) (by rw[U];decide) (by omega) (by omega) (by rw[T];omega) (by rw[T,E];exact growslice_fits (by omega) (by omega));rw[E,<-Q]at m;have Y:=grownCap_ge w (l.length+1) l.length 206;have J:=grownCap_le_maxLen w (l.length+1) l.length 206 (by unfold maxLen;omega);generalize grownCap w (l.length+1) l.length 206=G at m Y J;generalize a:(hV (l.take i)).toArray++Un (Value.agg #[.int .i64 0,.int .i64 0]).cells (l.length+1 - i)++Un (Value.agg #[.int .i64 0,.int .i64 0]).cells (G - (l.length+1))=ROW at m
 have a0:∃Z:List D_,ROW.toList=hV (l.take i)++Z/\Z.length=(G - i)*2:=by
  refine⟨(Un (Value.agg #[.int .i64 0,.int .i64 0]).cells (l.length+1 - i)).toList++(Un (Value.agg #[.int .i64 0,.int .i64 0]).cells (G - (l.length+1))).toList,?_,?_⟩
  ·rw[<-a];simp
  ·rw[Sl,aKo,aKo];omega
 obtain⟨Z,o,y⟩:=a0
 have K:ROW.size=G*2:=by
  rw[<-UH,o,Sl,s,y];omega
 clear a p;have D:eB (w.drew.alloc (.cells ROW 206)) w.heap.size ROW 206:=RU w.drew _;have d:bW w (w.drew.alloc (.cells ROW 206)):=(RS w.heap.size w).drew.alloc au _;generalize w.drew.alloc (.cells ROW 206)=WN at m D d;have a9:=SK S;have lg:=SK W
 obtain⟨H,a2,C,F⟩:=IZ (P:=prog) WN 196 196 3 206 w.heap.size (i*2) (l.length+1 - i) (G - i) ⟨vb,0,B_⟩ 1 1 ROW 206 [.int .i64 x.slot,.int .i64 x.age] 1
  underlying196 Jg D (by simp only[Nat.min_def];split<;>omega) rfl (UL (cs:=#[.int .i64 x.slot,.int .i64 x.age]) (t:=206) (fr:=(0,0)) (aL S d au)) (by rw[K];simp only[SC,Ui];omega) (by simp[Vk])
 generalize c:(ROW.toList.take (i*2)++[SX .i64 x.slot,SX .i64 x.age]++ROW.toList.drop (i*2 + [SX .i64 x.slot,SX .i64 x.age].length)).toArray=cur1 at C
 have z:cur1.size=G*2:=by
  rw[<-c];simp only[UQ,Sl,Tq,WO,o,s,y,SC,Ui];omega
 have O:eB H g r 206:=aH (w:=WN) (b:=g) (aL W d au) F (λe=>by have e':g=w.heap.size:=e;omega);have M:eB H.drew g r 206:=O
 have q:∀j u,(hV (l.drop i))[j]? = A_ u->H.drew.cell? ((⟨g,i*2,B_⟩:Addr).add j)=A_ u:=λj u X=>by
  rw[Addr.add_lit];refine aj M ?_;rw[<-Yl,hcut,GJ i l,Wj (by omega),s,show i*2+j - i*2=j by omega];exact X
 obtain⟨W2,a3,N,R⟩:=IZ (P:=prog) H.drew 196 196 3 206 w.heap.size ((i+1)*2) (l.length+1 - (i+1)) (G - (i+1)) ⟨g,i*2,B_⟩ (l.length - i) (l.length - i) cur1 206 (hV (l.drop i)) (l.length - i)
  underlying196 Jg C (by simp only[Nat.min_def];split<;>omega) n q (by rw[n,z];omega) (aC6 _)
 have I:Hid (AL w W2 (A_ g) (.slice (A_ ⟨w.heap.size,0,B_⟩) (l.length+1) G) (fG i x l)):=by
  have f:=aDk x (Nat.le_of_lt hi);refine⟨w.heap.size,G,by rw[f],⟨by rw[wR],RN ⟨w.heap.size,G,_,by rw[f],Sv _,N,by omega,J,?_,?_⟩⟩,?_,RN au⟩
  ·simp[z,n];omega
  ·have a:=aU9 (A:=hV (l.take i)) (B:=hV (l.drop i)) (Z:=Z) (.int .i64 x.slot) (.int .i64 x.age);rw[<-o,s,show i*2+2=(i+1)*2 by omega,show ROW.toList.take (i*2)++[SX .i64 x.slot,SX .i64 x.age]++ROW.toList.drop ((i+1)*2)=cur1.toList by rw[<-c];simp;omega]at a;dsimp only;rw[a,aDj,f,List.take_append,UW (by omega),s,show(l.length+1)*2 - i*2=(hV (l.drop i)).length+1+1 by omega,Xd,Xd,List.take_left]
  ·have o1:Out (λk=>k=w.heap.size) WN W2:=F.trans ((Sz (RS H.heap.size H).drew au).trans R (aK.refl _ _)) (aK.refl _ _);exact(Sz d au).trans o1 (λk hk=>RN (by omega))
 clear C N F R q hcut s n c z W L ht M O D d o y K Q E;have q0:IntKind.i64.wrap ((i:Int)+1)=(i:Int)+1:=Vr _ (by omega);have q1:(0:Int)<=(i:Int)+1:=by omega
 have q2:i<=l.length:=by omega
 have q3:((i:Int)+1).toNat=i+1:=by omega
 have q4:¬(G=i+1):=by omega
 have q5:(i:Int)<=(l.length:Int):=by omega
 have q6:¬(G=i):=by omega
 have b0:((i:Int) == (l.length:Int))=E_:=RG.2 (by omega);have q8:¬(l.length=i):=by omega
 go_enter func228,ntmps228
 go_wp2_with (first
  |(at_builtin;refine Lib.wpList_append_run _ rfl _ _ _ _ rfl _ _ rfl rfl _ _ m ?_)
  |(at_builtin;refine wpList_copy_runI _ rfl _ _ 196 196 rfl _ _ rfl rfl a2 ?_))
 go_region_law (refine step_copy_runI rfl _ _ 196 196 rfl _ _ (by simp[Act.eval,Act.put]) (by simp[Act.eval,Act.put]) a3 ?_);go_wp2;go_ret;exact⟨_,rfl,I⟩
def aV9(b i:Nat)(v:D_)(l:List Ly)(x:Ly)(w:C_)(c:w.ownsRow 0 206 2 v l.length (hV l))(d:l.length<=1000)(hi:i<=l.length)(a:eB w b #[U G x.slot,U G x.age] 206)(f:v.ownBlock≠A_ b):
  Sj prog 228 #[v,U G i,J (A_ ⟨b,0,B_⟩) 1 1] w λe j=>∃v',e=Y v'/\AL w j v.ownBlock v' (fG i x l):=by
 by_cases h1:i=l.length
 ·subst h1;rw[aV7];exact aWa b v l x w c d a
 ·obtain⟨g,cap,rfl,_,_⟩:=c.form o7;have k:b≠g:=λe=>f (by rw[e];rfl)
  by_cases h2:l.length+1<=cap
  ·exact aWc b g cap i l x w c d o7 h2 a k
  ·exact aWb b g cap i l x w c d o7 o7 a
def fP(lo hi z:Int):Bool:=decide (lo<=z)&& decide (z<=hi)
def qK(lo hi:Int):List Int->Bool
 |[]=>G_
 |z::r=>fP lo hi z&& qK lo hi r
def tN(h:fP lo hi z=G_):lo<=z/\z<=hi:=by
 unfold fP at h;simpa using h
def Me(h:fP lo hi z=E_):z<lo\/hi<z:=by
 unfold fP at h
 by_cases h1:lo<=z
 ·by_cases h2:z<=hi
  ·simp[h1,h2]at h
  ·exact RN o7
 ·exact RP o7
def DL(h:lo<=z/\z<=hi):fP lo hi z=G_:=by unfold fP;simp[h.1,h.2]
def aVr(h:z<lo\/hi<z):fP lo hi z=E_:=by
 cases e:fP lo hi z with
 |false=>rfl
 |true=>have:=tN e;omega
def Qo(lo hi z:Int):qK lo hi [z]=fP lo hi z:=by simp[qK]
def aLe(lo hi:Int)(a:List Int)(k:Nat)(h:k<a.length)(h1:lo<=a[k])(h2:a[k]<=hi):qK lo hi (a.drop (k+1))=qK lo hi (a.drop k):=by
 rw[Tt h];simp[qK,fP,h1,h2]
def Qp(lo hi:Int)(a:List Int)(k:Nat)(h:k<a.length)(h1:a[k]<lo\/hi<a[k]):qK lo hi (a.drop k)=E_:=by
 rw[Tt h];simp only[qK];rw[aVr h1];rfl
def aLd(lo hi:Int)(a:List Int)(k:Nat)(h:¬k<a.length):qK lo hi (a.drop k)=G_:=by
 rw[List.drop_eq_nil_of_le o7];rfl
def Oi{a b:Bool}(h:a=b):Ending.returned (.bool a)=Y (.bool b):=by rw[h]
def iX(p q:Int):Bool:=fP 1 1000000 p&& fP 1 1000000 q
def aKb(lo hi:Int)(b:Nat)(a:List Int)(w:C_)(f:a.length<=1000)(l:∀j,j<a.length->w.cell? ⟨b,j,B_⟩=A_ (U G (a.getD j 0))):
  Sj prog 120 #[U G lo,U G hi,J (A_ ⟨b,0,B_⟩) a.length a.length] w λe w'=>e=Y (.bool (qK lo hi a))/\w'=w:=by
 go_enter func120,ntmps120;go_wp2;go_loop [8,11] (λ_ i=>∃k:Nat,k<=a.length/\i=U G k/\qK lo hi (a.drop k)=qK lo hi a) (λ_ i=>a.length - (intOf i).toNat)
 case atStart=>exact⟨0,Sv _,rfl,rfl⟩
 case round=>
  obtain⟨k,hk,rfl,g⟩:=hrel;have c:=ah g;clear g;have d:k<a.length->w.cell? ⟨b,k,B_⟩=A_ (U G (a.getD k 0)):=λh=>l k h
  go_wp2
  ·go_ret;exact⟨Oi (by rw[<-c.out];exact(Qp lo hi a k a7 a7).symm),rfl⟩
  ·go_round
   case rel=>exact⟨k+1,o7,by go_num,by rw[<-c.out];exact aLe lo hi a k a7 o7 o7⟩
   case measure=>simp[intOf];omega
  ·go_ret;exact⟨Oi (by rw[<-c.out];exact(Qp lo hi a k a7 (RP a7)).symm),rfl⟩
  ·go_ret;exact⟨Oi (by rw[<-c.out];exact(aLd lo hi a k a7).symm),rfl⟩
def bCc(b:Nat)(a:List Int)(w:C_)(c:a.length<=1000)(d:∀j,j<a.length->w.cell? ⟨b,j,B_⟩=A_ (U G (a.getD j 0))):
  Sj prog 119 #[J (A_ ⟨b,0,B_⟩) a.length a.length] w λe w'=>e=Y (.bool (qK 1 1000000 a))/\w'=w:=by
 go_enter func119,ntmps119;go_wp2_with fail;refine(aKb _ _ _ a _ c d).mono ?_;rintro e w' ⟨rfl,rfl⟩;go_wp2;go_ret;exact⟨rfl,rfl⟩
def PK(lo hi z:Int)(b:Nat)(w:C_)(c:w.cell? ⟨b,0,B_⟩=A_ (U G z)):
  Sj prog 120 #[U G lo,U G hi,J (A_ ⟨b,0,B_⟩) 1 1] w λe w'=>e=Y (.bool (fP lo hi z))/\w'=w:=by
 rw[<-Qo]
 exact aKb lo hi b [z] w s7 (λj a=>by
  have:j=0:=by simp at a;exact a
  subst this;exact c)
def Ep(z:Int)(b:Nat)(w:C_)(c:w.cell? ⟨b,0,B_⟩=A_ (U G z)):
  Sj prog 119 #[J (A_ ⟨b,0,B_⟩) 1 1] w λe w'=>e=Y (.bool (fP 1 1000000 z))/\w'=w:=by
 rw[<-Qo]
 exact bCc b [z] w s7 (λj a=>by
  have:j=0:=by simp at a;exact a
  subst this;exact c)
def Fp(p q:Int)(w:C_):
  Sj prog 185 #[U G p,U G q] w λe w'=>e=Y (.bool (iX p q))/\Sd w.heap.size w w':=by
 cases hp:fP 1 1000000 p with
 |false=>
  have b:Hid (iX p q=E_):=by unfold iX;rw[hp];rfl
  have a:=ah hp;clear hp;go_enter func185,ntmps185;go_wp2_with fail;refine(Ep p _ _ (by simp[go_sem])).mono ?_;rintro e w' ⟨rfl,rfl⟩;rw[a.out];go_wp2_with fail;go_ret;exact⟨by rw[b.out];rfl,by go_grown⟩
 |true=>
  have b:Hid (iX p q=fP 1 1000000 q):=by unfold iX;rw[hp];rfl
  have a:=ah hp;clear hp;go_enter func185,ntmps185;go_wp2_with fail;refine(Ep p _ _ (by simp[go_sem])).mono ?_;rintro e w' ⟨rfl,rfl⟩;rw[a.out];go_wp2_with fail;refine(PK 1 1000000 q _ _ (by simp[go_sem])).mono ?_;rintro e w' ⟨rfl,rfl⟩;go_wp2_with fail;go_ret;exact⟨by rw[b.out];rfl,by go_grown⟩
structure aU where
 ab:Nat
 mb:Nat
 n:Nat
 vs:D_
 vf:D_
 v0:D_
 v1:D_
 rs:List aT
 fr:List Nat
 S:Nat->List Ly
def aKw(w:C_)(bb:Nat)(b:aU):Prop:=dL w bb b.ab b.mb b.n b.vs b.vf b.v0 b.v1 b.rs b.fr b.S
def aU.foot(bb:Nat)(b:aU):Nat->Prop:=vw bb b.ab b.mb b.vs b.vf b.v0 b.v1
structure Bk(w:C_)(bb m:Nat)(b:aU):Prop where
 at_:aKw w bb b
 ok:Pb m b.rs b.fr b.S
 small:b.n<=m
 steps:m<=900000
variable {b:aU}
def Bk.below{B:Nat}(h:Bk w bb m b)(c:Sd B w w')(a:w.heap.size<=B):Bk w' bb m b:=⟨dL.below h.at_ c a,h.ok,h.small,h.steps⟩
def Bk.out(h:Bk w bb m b)(ho:Out T w w')(a:∀k,b.foot bb k->¬T k):Bk w' bb m b:=⟨dL.out h.at_ ho a,h.ok,h.small,h.steps⟩
def Bk.more{a:Nat}(h:Bk w bb m b)(c:m<=a)(d:a<=900000):Bk w bb a b:=⟨h.at_,h.ok.more c,RV h.small c,d⟩
def Bk.lt(h:Bk w bb m b)(hk:b.foot bb k):k<w.heap.size:=dL.lt h.at_ hk
def Goes(w w':C_)(bb m:Nat)(b b':aU):Prop:=Bk w' bb m b'/\Out (b.foot bb) w w'/\aK w (b.foot bb) (b'.foot bb)
def Goes.stay{a:Nat}(h:Bk w bb m b)(c:Sd w.heap.size w w')(d:m<=a)(e:a<=900000):Goes w w' bb a b b:=⟨(h.below c au).more d e,Sz c au,aK.refl _ _⟩
def aU.none_(k:Nat):aU:=⟨k,k+1,0,J B_ 0 0,J B_ 0 0,J B_ 0 0,J B_ 0 0,[],[],λ_=>[]⟩
def aGl(w:C_):Sj prog 97 #[] w λe W'=>e=Y (E (A_ ⟨w.heap.size+2,0,B_⟩))/\Bk W' (w.heap.size+2) 0 (aU.none_ w.heap.size)/\Sd w.heap.size w W':=by
 have j:=@run_makeMap prog;go_enter func97,ntmps97;go_wp2_with fail;refine(bAe _).mono ?_;rintro e w1 ⟨rfl,rfl⟩;go_wp2;go_ret;have h1:=bAf w 100;have d:=aM w (R #[U G 100,J B_ 0 0,J B_ 0 0] 246);have f:(w.alloc (R #[U G 100,J B_ 0 0,J B_ 0 0] 246)).heap.size=w.heap.size+1:=by simp
 generalize w.alloc (R #[U G 100,J B_ 0 0,J B_ 0 0] 246)=w1 at h1 d f⊢
 have i:gV (w1.alloc (.map #[] 0)) (w.heap.size+1) 0 (λ_=>[]):=by
  have:=World.ownsMap_made (H:=Unit) w1 prog 3 En;rw[f]at this;exact⟨_,this,(λ_ _ x g=>(by cases g)),λ_ _=>rfl⟩
 have a:=aM w1 (.map #[] 0);have c:(w1.alloc (.map #[] 0)).heap.size=w.heap.size+2:=by simp;omega
 have h2:=h1.below a au;generalize w1.alloc (.map #[] 0)=w2 at i a c h2⊢;have g:=RU w2 (R #[E (A_ ⟨w.heap.size,0,B_⟩),.map (A_ (w.heap.size+1)),J B_ 0 0,J B_ 0 0] 199);have b:=aM w2 (R #[E (A_ ⟨w.heap.size,0,B_⟩),.map (A_ (w.heap.size+1)),J B_ 0 0,J B_ 0 0] 199);refine⟨by rw[<-c];rfl,?_,?_⟩
 ·refine⟨⟨by rw[c]at g;exact g,h2.below b au,i.same (b.block _ i.lt),Uo _ _ _ _,Uo _ _ _ _,λk hk=>by cases hk⟩,Pb.start 0,au,d7⟩
 ·exact aJ (aJ d a) b
def Na(w:C_)(h:(aU.none_ w.heap.size).foot (w.heap.size+2) k):w.heap.size<=k:=by
 rcases h with rfl|(rfl|h|h)|rfl|h|h
 ·omega
 ·exact au
 ·cases h
 ·cases h
 ·exact Uk _
 ·cases h
 ·cases h
def bBv(bb m:Nat)(b:aU)(w:C_)(h:Bk w bb m b):Sj prog 187 #[E (A_ ⟨bb,0,B_⟩)] w λe W'=>e=Y (U G ((b.S 0).length+(b.S 1).length:Nat))/\Sd w.heap.size w W':=by
 have a:w.cell? ⟨bb,0,B_⟩=A_ (E (A_ ⟨b.ab,0,B_⟩)):=aj (j:=0) h.at_.box rfl;have H:=ah h;clear h;go_enter func187,ntmps187;go_wp2_with fail;refine(Ni b.ab 100 b.vs b.vf b.rs b.fr _ _ H.out.at_.ar (by have:=H.out.ok.so.small;have:=H.out.steps;omega) rfl H.out.ok.so.cnt).mono ?_;rintro e w1 ⟨rfl,n,rfl⟩;go_wp2;go_ret;exact⟨by rw[<-H.out.ok.cnt];rfl,below_drewN (RS _ _) n⟩
structure jc(w:C_)(bb ab mb n:Nat)(vs vf v0 v1:D_)(rs:List aT)(fr:List Nat)(Sm Sr:Nat->List Ly):Prop where
 box:w.heap[bb]? = A_ (R #[E (A_ ⟨ab,0,B_⟩),.map (A_ mb),v0,v1] 199 (0,0))
 ar:bJ w ab 100 vs vf rs fr
 map:gV w mb n Sm
 row0:w.ownsRow 0 206 2 v0 (Sr 0).length (hV (Sr 0))
 kr:w.ownsRow 0 206 2 v1 (Sr 1).length (hV (Sr 1))
 apart:∀k,v0.ownBlock=A_ k->v1.ownBlock≠A_ k
variable {mb:Nat} {Sr:Nat->List Ly}
def dL.mid{S:Nat->List Ly}(h:dL w bb ab mb n vs vf v0 v1 rs fr S):jc w bb ab mb n vs vf v0 v1 rs fr S S:=⟨h.box,h.ar,h.map,h.row0,h.kr,h.apart⟩
def jc.done{S:Nat->List Ly}(h:jc w bb ab mb n vs vf v0 v1 rs fr S S):dL w bb ab mb n vs vf v0 v1 rs fr S:=⟨h.box,h.ar,h.map,h.row0,h.kr,h.apart⟩
def jc.out(h:jc w bb ab mb n vs vf v0 v1 rs fr Sm Sr)(ho:Out T w w')(a:∀k,vw bb ab mb vs vf v0 v1 k->¬T k):jc w' bb ab mb n vs vf v0 v1 rs fr Sm Sr:=
 ⟨aH h.box ho (a bb (RP rfl)),h.ar.out ho (λk hk=>a k (RN (RP hk))),h.map.same (ho.block mb h.map.lt (a mb (RN (RN (RP rfl))))),
  cu h.row0 ho (λk hk=>a k (RN (RN (RN (RP hk))))),cu h.kr ho (λk hk=>a k (RN (RN (RN (RN hk))))),h.apart⟩
def jc.rowIs(h:jc w bb ab mb n vs vf v0 v1 rs fr Sm Sr)(a:s<2):w.ownsRow 0 206 2 (eH v0 v1 s) (Sr s).length (hV (Sr s))/\w.cell? ⟨bb,2+s,B_⟩=A_ (eH v0 v1 s)/\w.frozen? ⟨bb,2+s,B_⟩=E_:=by
 match s,a with
 |0,_=>exact⟨h.row0,aj (j:=2) h.box rfl,aI h.box⟩
 |1,_=>exact⟨h.kr,aj (j:=3) h.box rfl,aI h.box⟩
def jc.Oo(h:jc w bb ab mb n vs vf v0 v1 rs fr Sm Sr)(a:s<2):(eH v0 v1 s).ownBlock≠A_ bb:=bM (h.rowIs a).1 h.box d7
def jc.bD3(h:jc w bb ab mb n vs vf v0 v1 rs fr Sm Sr)(a:s<2):(eH v0 v1 s).ownBlock≠A_ mb:=vo (h.rowIs a).1 h.map
def jc.Om(h:jc w bb ab mb n vs vf v0 v1 rs fr Sm Sr)(a:s<2)(hk:(eH v0 v1 s).ownBlock=A_ k):¬bF ab vs vf k:=λe=>by
 rcases e with e|e|e
 ·exact bM (h.rowIs a).1 (e▸h.ar.box) d7 hk
 ·exact nX (h.rowIs a).1 h.ar.slots d7 hk e
 ·exact nX (h.rowIs a).1 h.ar.free d7 hk e
def jc.aFc{b:Nat}{a:Nat->List Ly}(h:jc w bb ab mb n vs vf v0 v1 rs fr Sm Sr)(ho:Out (λj=>j=mb) w w')(d:gV w' mb b a):jc w' bb ab mb b vs vf v0 v1 rs fr a Sr:=
 ⟨aH h.box ho (h.map.ne h.box),h.ar.out ho (λk hk e=>by
   have c:k=mb:=e;subst c;rcases hk with e|e|e
   ·exact h.map.ne h.ar.box e.symm
   ·exact vo h.ar.slots h.map e
   ·exact vo h.ar.free h.map e),d,cu h.row0 ho (λk hk e=>vo h.row0 h.map (by rw[<-show k=mb from e];exact hk)),cu h.kr ho (λk hk e=>vo h.kr h.map (by rw[<-show k=mb from e];exact hk)),h.apart⟩
def jc.Ia{c b:D_}{a:List aT}{fr':List Nat}(h:jc w bb ab mb n vs vf v0 v1 rs fr Sm Sr)(ho:Out (bF ab vs vf) w w')(d:bJ w' ab 100 c b a fr'):jc w' bb ab mb n c b v0 v1 a fr' Sm Sr:=
 ⟨aH h.box ho (λe=>by
   rcases e with e|e|e
   ·exact kY h.box h.ar.box d7 e
   ·exact bM h.ar.slots h.box d7 e
   ·exact bM h.ar.free h.box d7 e),d,h.map.same (ho.block mb h.map.lt (λe=>by
   rcases e with e|e|e
   ·exact h.map.ne h.ar.box e.symm
   ·exact vo h.ar.slots h.map e
   ·exact vo h.ar.free h.map e)),cu h.row0 ho (λ_ hk=>h.Om (s:=0) d7 hk),cu h.kr ho (λ_ hk=>h.Om (s:=1) d7 hk),h.apart⟩
def mM(v v':D_)(s t:Nat):D_:=if s=t then v' else v
def jc.newRow{b:List Ly}(h:jc w bb ab mb n vs vf v0 v1 rs fr Sm Sr)(q:s<2)(u:w1.ownsRow 0 206 2 (J (A_ ⟨g,0,B_⟩) b.length cap) b.length (hV b))(ho:Out (λk=>(eH v0 v1 s).ownBlock=A_ k) w w1)(f:(eH v0 v1 s).ownBlock=A_ g\/w.heap.size<=g):
  jc (w1.setCell ⟨bb,2+s,B_⟩ (J (A_ ⟨g,0,B_⟩) b.length cap)) bb ab mb n vs vf (mM v0 (J (A_ ⟨g,0,B_⟩) b.length cap) s 0) (mM v1 (J (A_ ⟨g,0,B_⟩) b.length cap) s 1) rs fr Sm (dB Sr s b)
  /\Out (λk=>k=bb\/(eH v0 v1 s).ownBlock=A_ k) w (w1.setCell ⟨bb,2+s,B_⟩ (J (A_ ⟨g,0,B_⟩) b.length cap)):=by
 have a:=aH h.box ho (h.Oo q);have o2:=bL w1 ⟨bb,2+s,B_⟩ (J (A_ ⟨g,0,B_⟩) b.length cap);have c:=h.ar.out ho (λk hk e=>h.Om q e hk);have l:=h.map.same (ho.block mb h.map.lt (h.bD3 q))
 have d:=c.out o2 (λk hk e=>by
  have m:k=bb:=e;subst m;rcases hk with e|e|e
  ·exact kY a c.box d7 e
  ·exact bM c.slots a d7 e
  ·exact bM c.free a d7 e)
 have i:=l.same (o2.block mb l.lt (λe=>l.ne a (show mb=bb from e).symm));have o:(w1.setCell ⟨bb,2+s,B_⟩ (J (A_ ⟨g,0,B_⟩) b.length cap)).ownsRow 0 206 2 (J (A_ ⟨g,0,B_⟩) b.length cap) b.length (hV b):=cu u o2 (λk hk e=>bM u a d7 (by rw[<-show k=bb from e];exact hk));refine⟨?_,(ho.mono (λk hk=>RN hk)).trans (o2.mono (λk hk=>RP hk)) (aK.refl _ _)⟩
 match s,q with
 |0,_=>
  have p:w1.ownsRow 0 206 2 v1 (Sr 1).length (hV (Sr 1)):=cu h.kr ho (λk hk e=>h.apart k e hk);have t:=cu p o2 (λk hk e=>bM p a d7 (by rw[<-show k=bb from e];exact hk));refine⟨bg (j:=2) _ a,d,i,o,t,λk hk=>?_⟩;have m:g=k:=by simpa[mM,Uf]using hk
  subst m;rcases f with f|f
  ·exact h.apart _ f
  ·exact λe=>by have:=(h.kr.lt _ e).2;omega
 |1,_=>
  have p:w1.ownsRow 0 206 2 v0 (Sr 0).length (hV (Sr 0)):=cu h.row0 ho (λk hk e=>h.apart k hk e);have t:=cu p o2 (λk hk e=>bM p a d7 (by rw[<-show k=bb from e];exact hk));refine⟨bg (j:=3) _ a,d,i,t,o,λk hk=>?_⟩;intro r;have m:g=k:=by simpa[mM,Uf]using r
  subst m;rcases f with f|f
  ·exact h.apart _ hk f
  ·have:=(h.row0.lt _ hk).2;omega
def aHl{v':D_}(b:s<2)(a:∀k,v'.ownBlock=A_ k->(eH v0 v1 s).ownBlock=A_ k\/w.heap.size<=k):aK w (λk=>v0.ownBlock=A_ k\/v1.ownBlock=A_ k) (λk=>(mM v0 v' s 0).ownBlock=A_ k\/(mM v1 v' s 1).ownBlock=A_ k):=by
 match s,b with
 |0,_=>
  rintro k (hk|hk)
  ·exact(a k hk).imp RP id
  ·exact RP (RN hk)
 |1,_=>
  rintro k (hk|hk)
  ·exact RP (RP hk)
  ·exact(a k hk).imp RN id
def Pv(a:s<2)(h:(eH v0 v1 s).ownBlock=A_ k):v0.ownBlock=A_ k\/v1.ownBlock=A_ k:=by
 match s,a with
 |0,_=>exact RP h
 |1,_=>exact RN h
def Da{a m:D_}(h:w.heap[bb]? = A_ (R #[a,m,v0,v1] t (0,0)))(b:s<2):w.cell? ⟨bb,2+s,B_⟩=A_ (eH v0 v1 s)/\w.frozen? ⟨bb,2+s,B_⟩=E_:=by
 match s,b with
 |0,_=>exact⟨aj (j:=2) h rfl,aI h⟩
 |1,_=>exact⟨aj (j:=3) h rfl,aI h⟩
def aHb(bb ab mb nn s:Nat)(vs vf v0 v1:D_)(rs:List aT)(fr:List Nat)(S:Nat->List Ly)(o:Ord)(b W:C_)(g:s<2)(a:(S s).length<=1000)(d:∀x∈S s,aW rs x.slot=(A_ x.o,x.age))(c:dL b bb ab mb nn vs vf v0 v1 rs fr S)(f:Sd b.heap.size b W):
  Sj prog 229 #[E (A_ ⟨bb,0,B_⟩),U G s,o.agg] W λe w1=>e=Y (U G (iW o ((S s).map Ly.o)))/\Sd W.heap.size W w1/\Sd b.heap.size b w1/\w1.cell? ⟨bb,2+s,B_⟩=A_ (eH v0 v1 s)/\bb<w1.heap.size:=
 (bDf bb ab mb nn s vs vf v0 v1 rs fr S o g a d W (c.below f au)).mono λ_ _ ⟨h1,h2⟩=>
  have h3:=aJ f h2
  ⟨h1,h2,h3,(Da (c.below h3 au).box g).1,SK (c.below h3 au).box⟩
def aDp(d i bb ab mb nn s:Nat)(vs vf v0 v1:D_)(rs:List aT)(fr:List Nat)(S:Nat->List Ly)(x:Ly)(b W:C_)(m:s<2)(c:(S s).length<=1000)(hi:i<=(S s).length)(j:dL b bb ab mb nn vs vf v0 v1 rs fr S)(l:Sd b.heap.size b W)(n:W.heap[d]? = A_ (R #[U G x.slot,U G x.age] 206 (0,0)))(q:b.heap.size<=d):
  Sj prog 228 #[eH v0 v1 s,U G i,J (A_ ⟨d,0,B_⟩) 1 1] W λe w1=>∃g cap,e=Y (J (A_ ⟨g,0,B_⟩) (fG i x (S s)).length cap)
   /\w1.ownsRow 0 206 2 (J (A_ ⟨g,0,B_⟩) (fG i x (S s)).length cap) (fG i x (S s)).length (hV (fG i x (S s)))/\Out (λk=>(eH v0 v1 s).ownBlock=A_ k) b w1/\((eH v0 v1 s).ownBlock=A_ g\/b.heap.size<=g)
   /\Out (λk=>k=bb\/(eH v0 v1 s).ownBlock=A_ k) b w1/\w1.cell? ⟨bb,2+s,B_⟩=A_ (eH v0 v1 s)/\w1.frozen? ⟨bb,2+s,B_⟩=E_:=by
 have a:=(j.mid.rowIs m).1;refine(aV9 d i (eH v0 v1 s) (S s) x W (jw a l au) c hi n (λe=>by have:=(a.lt _ e).2;omega)).mono ?_;rintro e w1 ⟨v',rfl,g,cap,rfl,h1,h2,h3⟩;have f:Out (λk=>(eH v0 v1 s).ownBlock=A_ k) b w1:=(Sz l au).trans h2 (aK.refl _ _);obtain⟨o,p⟩:=Da (aH j.box f (j.mid.Oo m)) m;exact⟨g,cap,rfl,h1,f,h3.imp id (λh=>RV l.size h),f.mono (λk hk=>RN hk),o,p⟩
def rE(P:TB)(md:XW)(ops:Array Oper)(Q:Exit->Act->C_->Prop)(S:C_->Prop)(L:Nat->Bool):Nat->Array Bool->Act->C_->Prop
 |0,listed,a,w=>Tx md ops listed=[]/\Q .normal a w
 |fuel+1,listed,a,w=>(Tx md ops listed=[]->Q .normal a w)/\∀i∈Tx md ops listed,wpOp P ops Q i (λa' w'=>(L i=E_->S w')/\rE P md ops Q S L fuel (listed.setIfInBounds i G_) a' w') a w
def aKe:∀(b:Nat) (listed:Array Bool) (a:Act) (w:C_),rE P md ops Q S L b listed a w->wpAny P md ops Q b listed a w
 |0,_,_,_,h=>h
 |b+1,_,_,_,h=>⟨h.1,λi hi=>wpOp_mono (λa' w' c=>aKe b _ a' w' c.2) (h.2 i hi)⟩
def Cu(md:XW)(ops:Array Oper):Nat->Nat->Nat->Bool
 |0,_,_=>E_
 |n+1,j,i=>match ops[j]? with
  |some o=>o.after.any λe=>Yw md e&& (e.on == i || Cu md ops n e.on i)
  |none=>E_
def aJ6(h:Cu md ops (n+1) j i=G_):∃oj,ops[j]? = A_ oj/\∃e∈oj.after,Yw md e=G_/\(e.on=i\/Cu md ops n e.on i=G_):=by
 unfold Cu at h;cases hj:ops[j]? with
 |none=>rw[hj]at h;cases h
 |some oj=>
  rw[hj]at h;obtain⟨e,a,h1⟩:=Array.any_eq_true'.1 h;simp only[SV,XD,beq_iff_eq]at h1;exact⟨oj,rfl,e,a,h1⟩
def Down(md:XW)(ops:Array Oper)(listed:Array Bool):Prop:=∀(j:Nat) (oj:Oper),ops[j]? = A_ oj->listed.getD j E_=G_->∀e∈oj.after,Yw md e=G_->listed.getD e.on E_=G_
def Down.more{a:Array Bool}(h:Down md ops a)(l:j∈Tx md ops a):Down md ops (a.setIfInBounds j G_):=by
 obtain⟨_,m,d,b⟩:=mem_ready.1 l;intro k ok hk i e g f;apply getD_set_true
 by_cases c:j=k
 ·subst c;rw[d]at hk;injection hk with hk;subst hk;exact b e g f
 ·rw[getD_set_ne E_ c]at i;exact h k ok hk i e g f
def aJ7{a:Array Bool}{i:Nat}(c:Down md ops a)(hi:a.getD i E_=E_):∀(n j:Nat),Cu md ops n j i=G_->a.getD j E_=E_
 |0,_,h=>by cases h
 |n+1,j,h=>by
  obtain⟨g,b,e,f,d,h1⟩:=aJ6 h;cases hc:a.getD j E_ with
  |false=>rfl
  |true=>
   have h2:=c j g b hc e f d;rcases h1 with h1|h1
   ·rw[h1,hi]at h2;cases h2
   ·rw[aJ7 c hi n _ h1]at h2;cases h2
def BG(md:XW)(ops:Array Oper)(L:Nat->Bool)(i:Nat):Bool:=(Vj ops.size).all λj=>!L j || Cu md ops 4 j i
def aD1{a:Array Bool}(h:BG md ops L i=G_)(k:Down md ops a)(hi:a.getD i E_=E_)(m:j∈Tx md ops a):L j=E_:=by
 obtain⟨_,p,d,c⟩:=mem_ready.1 m;have f:=(Sb.1 d).1;have h0:=VF.1 h j (YJ.2 f);cases hL:L j with
 |false=>rfl
 |true=>
  rw[hL]at h0;obtain⟨o,b,e,l,g,h1⟩:=aJ6 (n:=3) (by simpa using h0);rw[d]at b;injection b with b;subst b;have h2:=c e l g;rcases h1 with h1|h1
  ·rw[h1,hi]at h2;cases h2
  ·rw[aJ7 k hi 3 _ h1]at h2;cases h2
def zG(md:XW)(ops:Array Oper)(listed:Array Bool):Bool:=(Vj ops.size).all λj=>!listed.getD j E_ || (match ops[j]? with|some o=>o.after.all λe=>!Region.binds md e || listed.getD e.on E_|none=>G_)
def KV{listed:Array Bool}(h:zG md ops listed=G_):Down md ops listed:=λj g a f e d c=>by
 have b:=(Sb.1 a).1;have h0:=VF.1 h j (YJ.2 b);simp only[f,a,Bool.not_true,Bool.false_or]at h0;have h1:=Array.all_eq_true'.1 h0 e d
 simpa[c]using h1
def bIx{x:Oper}(hi:ops[i]? = A_ x)(n:∀(j:Nat) (o:Oper) cs b,ops[j]? = A_ o->o.op≠.select cs b)(K:∀c a w,Q (.panic c) (a.put x.dst v) w->Q (.panic c) a w)(O:BG md ops L i=G_):
  ∀(f:Nat) (d:Array Bool) (a:Act) (w:C_),
   (∀j t,ops[j]? = A_ t->j≠i->d.getD j G_=E_->(∀e∈t.after,Yw md e=G_->e.on≠i)->x.apart ops t=G_)->Down md ops d->
   i∈Tx md ops d->YieldsIf P ops S x v a->S w->rE P md ops Q S L f (d.setIfInBounds i G_) (a.put x.dst v) w->rE P md ops Q S L (f+1) d a w:=by
 intro f
 induction f with
 |zero=>
  intro d a w _ _ r E z H;refine⟨λh=>(by rw[h]at r;cases r),λj u=>?_⟩
  by_cases g:j=i
  ·subst g;exact E.wpOp hi z ⟨λ_=>z,H⟩
  ·have:=ready_mono u g;rw[H.1]at this;cases this
 |succ f ih=>
  intro d a w l J r E z H;refine⟨λh=>(by rw[h]at r;cases r),λj u=>?_⟩
  by_cases g:j=i
  ·subst g;exact E.wpOp hi z ⟨λ_=>z,H⟩
  obtain⟨m,t,q,A⟩:=mem_ready.1 u;have s:d.getD i G_=E_:=(mem_ready.1 r).1
  have D:∀e∈t.after,Yw md e=G_->e.on≠i:=λe N M F=>by
   have h1:=A e N M;rw[F]at h1;rcases Us i d.size with p|p
   ·simp[p]at s h1;rw[s]at h1;cases h1
   ·simp[Te p]at h1
  have y:L j=E_:=aD1 O J (by
   rcases Us i d.size with p|p
   ·simpa[p]using s
   ·simp[Te p]) u
  have h2:=wpOp_putIf q (l j t q g m D) (λcs b=>n i x cs b hi) (λcs b=>n j t cs b q) K E (H.2 j (ready_mono u g))
  refine wpOp_mono (λa' w' h3=>⟨λ_=>h3.2.1 y,ih (d.setIfInBounds j G_) a' w' (λk ok hk G C I=>l k ok hk G (by
   by_cases B:j=k
   ·subst B;exact m
   ·rw[getD_set_ne G_ B]at C;exact C) I) (J.more u) (ready_mono r (Ne.symm g)) h3.1 (h3.2.1 y) ?_⟩) h2
  rw[Array.setIfInBounds_comm _ _ g];exact h3.2.2
def bIy{e:Oper}{b:Array Bool}(hi:ops[i]? = A_ e)(n:Zf ops=G_)(k:Region.free md ops b i=G_)(m:(Tx md ops b).contains i=G_)(l:BG md ops L i=G_)(j:zG md ops b=G_)(f:∀c a w,Q (.panic c) (a.put e.dst v) w->Q (.panic c) a w)(o:Vv e (yielded ops a.tmps)=G_)(p:∀w,S w->(execOp a.eval e).run P w=.ok (.value v) w)(g:S w)(h:rE P md ops Q S L d (b.setIfInBounds i G_) (a.put e.dst v) w):rE P md ops Q S L (d+1) b a w:=
 bIx hi (Region.noSelect_spec n) f l d b a w (Region.free_spec hi k) (KV j) (by simpa using m) (RP ⟨o,p⟩) g h
def dP{P:TB}{ops:Array Oper}{Q:Exit->Act->C_->Prop}{md:XW}{S:C_->Prop}{L:Nat->Bool}(i:Nat){oi:Oper}{b:Array Bool}(g:S w)(h:rE P md ops Q S L d (b.setIfInBounds i G_) (a.put oi.dst v) w)(hi:ops[i]? = A_ oi:=by exact rfl)(k:∀w,S w->(execOp a.eval oi).run P w=.ok (.value v) w:=by(intro w e;(try dsimp only at e);go_simp;try rfl))(hk:(Zf ops&& Region.free md ops b i&& (Tx md ops b).contains i&& BG md ops L i&& zG md ops b)=G_:=by kernel_rfl)(f:∀c a w,Q (.panic c) (a.put oi.dst v) w->Q (.panic c) a w:=by exact λ_ _ _ h=>h)(j:Vv oi (yielded ops a.tmps)=G_:=by rfl):rE P md ops Q S L (d+1) b a w:=by
 simp only[SV]at hk;exact bIy hi hk.1.1.1.1 hk.1.1.1.2 hk.1.1.2 hk.1.2 hk.2 f j k g h
def dK(P:TB)(md:XW)(ops:Array Oper)(Q:Exit->Act->C_->Prop)(S:C_->Prop)(L:Nat->Bool)(fuel:Nat)(listed:Array Bool)(a:Act)(w:C_)(rs:List Nat):Prop:=
 ∀i∈rs,wpOp P ops Q i (λa' w'=>(L i=E_->S w')/\rE P md ops Q S L fuel (listed.setIfInBounds i G_) a' w') a w
def dK.nil{b:Array Bool}:dK P md ops Q S L c b a w []:=λ_ h=>by cases h
def dK.cons{b:Array Bool}{o:Oper}{rs:List Nat}(ho:ops[i]? = A_ o)(h:∀d:Act->C_->Prop,Shut (∀a w,(L i=E_->S w)->((L i=E_->S w)->rE P md ops Q S L c (b.setIfInBounds i G_) a w)->d a w)->if Vv o (yielded ops a.tmps)=G_ then Oper.wp P o a w d Q else d (a.put o.dst undef) w)(l:dK P md ops Q S L c b a w rs):dK P md ops Q S L c b a w (i::rs):=λj e=>by
 rcases List.mem_cons.1 e with rfl|e
 ·exact wpOp_step ho (λd g=>h d (λa w f k=>g a w ⟨f,k f⟩))
 ·exact l j e
def mO{rs:List Nat}{b:Array Bool}(e:Tx md ops b=rs)(d:rs≠[])(h:dK P md ops Q S L c b a w rs):rE P md ops Q S L (c+1) b a w:=
 ⟨λh0=>absurd (e▸h0) d,e▸h⟩
def EX{b:Array Bool}(c:Tx md ops b=[])(h:Q .normal a w):∀fuel,rE P md ops Q S L fuel b a w
 |0=>⟨c,h⟩
 |_+1=>⟨λ_=>h,by rw[c];simp⟩
def JJ{id:Nat}(S:C_->Prop)(L:Nat->Bool)(c:P.follows .mixedOrders=G_)(b:S w.drew)(h:S w.drew->rE P .any ops Q S L ops.size (Array.replicate ops.size E_) a w.drew):(Code.region id ops G_).wp P Q a w:=
 wp_region_any c (aKe _ _ _ _ (h b))
section
attribute [local go_sem ↓] Go.wp_at_zero Go.wp_at_succ
def eT(o:Ord):Ord:=if o.kind=2 then { o with price:=1 }else o
def aEh(o:Ord):(eT o).id=o.id:=by unfold eT;split<;>rfl
def aEi(o:Ord):(eT o).side=o.side:=by unfold eT;split<;>rfl
def qE(s:Int):Bool:=s == 1 || s == 2
def CB(S:Nat->List Ly)(id:Int):Prop:=∃s,s<2/\∃x∈S s,x.o.id=id
def Hl(S:Nat->List Ly)(id:Int):CB S id\/∀s,s<2->∀x∈S s,x.o.id≠id:=by
 by_cases h:CB S id
 ·exact RP h
 ·exact RN (λs a x b e=>h ⟨s,a,x,b,e⟩)
def PN(w W':C_)(bb m:Nat)(b:aU)(o:Ord)(e:Ending):Prop:=
 ((qE o.side=E_\/o.id<1)/\e=Y (.iface 30 (U G 1))/\Goes w W' bb (m+1) b b)
 \/(qE o.side=G_/\¬o.id<1/\iX (eT o).price (eT o).ak=E_/\e=Y (.iface 30 (U G 2))/\Goes w W' bb (m+1) b b)
 \/(qE o.side=G_/\¬o.id<1/\iX (eT o).price (eT o).ak=G_/\CB b.S o.id/\e=Y (.iface 30 (U G 9))/\Goes w W' bb (m+1) b b)
 \/(qE o.side=G_/\¬o.id<1/\iX (eT o).price (eT o).ak=G_/\(∀s,s<2->∀x∈b.S s,x.o.id≠o.id)/\(b.S 0).length+(b.S 1).length=100/\e=Y (.iface 30 (U G 12))/\Goes w W' bb (m+1) b b)
 \/(qE o.side=G_/\¬o.id<1/\iX (eT o).price (eT o).ak=G_/\(∀s,s<2->∀x∈b.S s,x.o.id≠o.id)/\(b.S 0).length+(b.S 1).length<100/\e=Y .nilIface
  /\∃(b':aU) (s k:Nat) (a:Int),s<2/\o.side=(s:Int)+1/\b'.S=dB b.S s (fG (iW (eT o) ((b.S s).map Ly.o)) ⟨k,a,eT o⟩ (b.S s))/\Goes w W' bb (m+1) b b')
def aDl(i:Nat)(x:Ly)(l:List Ly):(fG i x l).Perm (x::l):=by
 have:=List.perm_middle (a:=x) (l₁:=l.take i) (l₂:=l.drop i)
 rwa[WA]at this
def Ko(b:aU)(s k:Nat)(ag:Int)(p:Ord)(vs' vf' v':D_)(rs1:List aT)(fr1:List Nat):aU:=
 ⟨b.ab,b.mb,b.n+1,vs',vf',mM b.v0 v' s 0,mM b.v1 v' s 1,rs1.set k (A_ p,ag),fr1,dB b.S s (fG (iW p ((b.S s).map Ly.o)) ⟨k,ag,p⟩ (b.S s))⟩
def aG1{S:Nat->List Ly}{x:Ly}(t:Nat)(y:Ly):y∈dB S s (fG i x (S s)) t↔((t=s/\y=x)\/y∈S t):=by
 by_cases e:t=s
 ·subst e;rw[yU,(aDl i x (S t)).mem_iff];simp
 ·rw[yT _ e];simp[e]
def Ql{H F G:C_}{u:Nat}{c:Int}{p:Ord}{q l:D_}{d:List aT}{f:List Nat}(h:Bk w bb m b)(Q:m+1<=900000)(D:s<2)(N:zn b.rs b.fr k d f)(v:(aW d k).2=c)(i:p.side=(s:Int)+1)(K:¬p.id<1)(E:(Lit.int .i64 p.id).wf=G_)(R:iX p.price p.ak=G_)(A:∀t,t<2->∀x∈b.S t,x.o.id≠p.id)(P:(b.S 0).length+(b.S 1).length<100)(I:Out (b.foot bb) w H)(M:aK w (bF b.ab b.vs b.vf) (bF b.ab q l))(y:(eH b.v0 b.v1 s).ownBlock=A_ g\/H.heap.size<=g)(L:jc F bb b.ab b.mb b.n q l (mM b.v0 (J (A_ ⟨g,0,B_⟩) (fG (iW p ((b.S s).map Ly.o)) ⟨k,c,p⟩ (b.S s)).length u) s 0) (mM b.v1 (J (A_ ⟨g,0,B_⟩) (fG (iW p ((b.S s).map Ly.o)) ⟨k,c,p⟩ (b.S s)).length u) s 1) (d.set k (A_ p,c)) f b.S (dB b.S s (fG (iW p ((b.S s).map Ly.o)) ⟨k,c,p⟩ (b.S s))))(O:Out (λj=>j=bb\/(eH b.v0 b.v1 s).ownBlock=A_ j) H F)(z:gV G b.mb (b.n+1) (dB b.S s (fG (iW p ((b.S s).map Ly.o)) ⟨k,c,p⟩ (b.S s))))(r:Out (λj=>j=b.mb) F G):
  Goes w G bb (m+1) b (Ko b s k c p q l (J (A_ ⟨g,0,B_⟩) (fG (iW p ((b.S s).map Ly.o)) ⟨k,c,p⟩ (b.S s)).length u) d f):=by
 obtain⟨B,C⟩:fP 1 1000000 p.price=G_/\fP 1 1000000 p.ak=G_:=by simpa[iX]using R
 have h1:=tN B;have h2:=tN C;refine⟨⟨(L.aFc r z).done,?_,Nat.succ_le_succ h.small,Q⟩,?_,?_⟩
 ·subst v;exact h.ok.put N D (aDl _ _ _) i ⟨o7,E,h1.1,h1.2,h2.1,h2.2⟩ A P
 ·refine(I.trans (O.mono (S':=b.foot bb) (λj a=>?_)) (aK.refl _ _)).trans (r.mono (S':=b.foot bb) (λj a=>RN (RN (RP a)))) (aK.refl _ _);rcases a with a|a
  ·exact RP a
  ·exact RN (RN (RN (Pv D a)))
 ·have T:=aHl (w:=w) (v0:=b.v0) (v1:=b.v1) (v':=J (A_ ⟨g,0,B_⟩) (fG (iW p ((b.S s).map Ly.o)) ⟨k,c,p⟩ (b.S s)).length u) D (λj a=>by
   have e:g=j:=by simpa[Uf]using a
   subst e;exact y.imp id (λh=>RV I.size h))
  rintro j (a|a|a|a)
  ·exact RP (RP a)
  ·exact(M j a).imp (λh=>RN (RP h)) id
  ·exact RP (RN (RN (RP a)))
  ·exact(T j a).imp (λh=>RN (RN (RN h))) id
def bBu(bb m:Nat)(b:aU)(o:Ord)(w:C_)(h:Bk w bb m b)(hm:m+1<=900000)(hw:(Lit.int .i64 o.id).wf=G_):
  Sj prog 192 #[E (A_ ⟨bb,0,B_⟩),o.agg] w λe W'=>PN w W' bb m b o e:=by
 have H:=ah h;have HW:=ah hw;clear h hw;unfold Ord.agg;go_enter func192,ntmps192;go_wp2_with fail;refine(GX o.side _).mono ?_;rintro e w1 ⟨rfl,hw⟩;subst hw;cases hs:(o.side == 1 || o.side == 2)with
 |false=>
  have HS:Hid (qE o.side=E_):=hs;clear hs;go_wp2_with fail;go_ret;exact RP ⟨RP HS,rfl,Goes.stay H (aM _ _) (Uk _) hm⟩
 |true=>
  have HS:Hid (qE o.side=G_):=hs;clear hs
  by_cases b6:o.id<1
  ·have f5:=RI b6;go_wp2_with fail;go_ret;exact RP ⟨RN b6,rfl,Goes.stay H (aM _ _) (Uk _) hm⟩
  ·have HI:=ah b6;go_upto_if 22 with fail;go_cut [23] (λ_ wc=>bW w wc/\iM wc w.heap.size (eT o))
   case first=>
    by_cases hk:o.kind=2
    ·have f3:=beq_iff_eq.2 hk;have HK:Hid (eT o={ o with price:=1 }):=by show eT o=_;unfold eT;rw[RF hk]
     clear hk;go_wp2_with fail;go_meet;exact⟨aM _ _,by rw[HK.out];exact RU w _⟩
    ·have f3:=RG.2 hk;have HK:Hid (eT o=o):=by show eT o=_;unfold eT;rw[RD hk]
     clear hk;go_wp2_with fail;go_meet;exact⟨aM _ _,by rw[HK.out];exact RU w _⟩
   case rest=>
    obtain⟨A,X⟩:=hcut;have v:=ah (aEh o);have b3:Hid ((eT o).side=o.side):=aEi o
    have HP:Hid (∀(e:Ending) (W':C_),((qE o.side=G_/\¬o.id<1/\iX (eT o).price (eT o).ak=E_/\e=Y (.iface 30 (U G 2))/\Goes w W' bb (m+1) b b)
      \/(qE o.side=G_/\¬o.id<1/\iX (eT o).price (eT o).ak=G_/\CB b.S o.id/\e=Y (.iface 30 (U G 9))/\Goes w W' bb (m+1) b b)
      \/(qE o.side=G_/\¬o.id<1/\iX (eT o).price (eT o).ak=G_/\(∀s,s<2->∀x∈b.S s,x.o.id≠o.id)/\(b.S 0).length+(b.S 1).length=100/\e=Y (.iface 30 (U G 12))/\Goes w W' bb (m+1) b b)
      \/(qE o.side=G_/\¬o.id<1/\iX (eT o).price (eT o).ak=G_/\(∀s,s<2->∀x∈b.S s,x.o.id≠o.id)/\(b.S 0).length+(b.S 1).length<100/\e=Y .nilIface
       /\∃(b':aU) (s k:Nat) (a:Int),s<2/\o.side=(s:Int)+1/\b'.S=dB b.S s (fG (iW (eT o) ((b.S s).map Ly.o)) ⟨k,a,eT o⟩ (b.S s))/\Goes w W' bb (m+1) b b'))->PN w W' bb m b o e):=λe W' h=>RN h
    generalize eT o=p at X v b3 HP;have HB:=ah A;have HX:=ah X;have z0:=aj (j:=0) X rfl;have z1:=aj (j:=1) X rfl;have z2:=aj (j:=2) X rfl;have z3:=aj (j:=3) X rfl;have z4:=aj (j:=4) X rfl;clear X A b6;go_wp2_with fail;refine(Fp p.price p.ak _).mono ?_;rintro e w1 ⟨rfl,l⟩;have b2:=ah (aJ HB l);have c8:Hid (iM w1 w.heap.size p):=aL HX l au;clear l z0 z1 z2 z3 z4;cases hr:iX p.price p.ak with
    |false=>
     have HR:=ah hr;clear hr;go_wp2_with fail;go_ret;exact HP _ _ (RP ⟨HS,HI,HR,rfl,Goes.stay H b2 (Uk _) hm⟩)
    |true=>
     have HR:=ah hr;clear hr;go_wp2_with fail;have a5:Hid (Bk w1 bb m b):=H.below b2 au;have m1:aF w1 bb 1 (.map (A_ b.mb)):=aj (j:=1) a5.at_.box rfl;have m2:aF w1 w.heap.size 0 (U G p.id):=aj (j:=0) c8 rfl;have c0:(Lit.int .i64 p.id).wf=G_:=by rw[v.out];exact HW
     have lb:bb<w1.heap.size:=a5.lt (RP rfl);have lx:=SK c8;rcases Hl b.S p.id with hl|hl
     ·obtain⟨s,c,x,hxs,c1⟩:=hl;have HL:Hid (CB b.S p.id):=⟨s,c,x,hxs,c1⟩
      have a0:Hid (∀w',bW w1 w'->(aF w' bb 1 (.map (A_ b.mb))/\aF w' w.heap.size 0 (U G p.id)/\(Vx 195 (.map (A_ b.mb)) (U G p.id) G_).run prog w'=.ok (.tuple #[.agg #[U G x.slot,U G x.age,U G s],.bool G_]) w'/\bW w1 w')):=
       λw' A=>⟨Y_ A m1,Y_ A m2,by
        have:=(a5.below A au).at_.map.yes c hxs (by rw[c1];exact c0)
        rwa[c1]at this,A⟩
      clear m1 m2 c0 c1;have a3:=a0 w1 (RS _ _)
      go_region_held3 (λw'=>aF w' bb 1 (.map (A_ b.mb))/\aF w' w.heap.size 0 (U G p.id)/\(Vx 195 (.map (A_ b.mb)) (U G p.id) G_).run prog w'=.ok (.tuple #[.agg #[U G x.slot,U G x.age,U G s],.bool G_]) w'/\bW w1 w')
       ((refine a0 _ ?_;(repeat' first|assumption|exact RS _ _|exact au|refine Um ?_|refine TR ?_ ?_ _|(simp;done)|(simp;omega)))) (fail)
      all_goals go_wp2_with fail
      all_goals go_ret
      all_goals refine HP _ _ (RN (RP ⟨HS,HI,HR,v.out▸HL.out,rfl,Goes.stay H (aJ b2 ?_) (Uk _) hm⟩))
      all_goals(repeat' first|assumption|exact RS _ _|exact au|refine Um ?_|refine TR ?_ ?_ _|(simp;done)|(simp;omega))
     ·have HL:=ah hl
      have a0:Hid (∀w',bW w1 w'->(aF w' bb 1 (.map (A_ b.mb))/\aF w' w.heap.size 0 (U G p.id)/\(Vx 195 (.map (A_ b.mb)) (U G p.id) G_).run prog w'=.ok (.tuple #[.agg #[U G 0,U G 0,U G 0],.bool E_]) w'/\bW w1 w')):=
       λw' A=>⟨Y_ A m1,Y_ A m2,(a5.below A au).at_.map.no hl c0,A⟩
      clear m1 m2 c0 hl;have a3:=a0 w1 (RS _ _);go_cut [5,6] from 31 to 40 (λ_ p6 wc=>p6=.bool E_/\bW w1 wc)
      case first=>
       go_region_held3 (λw'=>aF w' bb 1 (.map (A_ b.mb))/\aF w' w.heap.size 0 (U G p.id)/\(Vx 195 (.map (A_ b.mb)) (U G p.id) G_).run prog w'=.ok (.tuple #[.agg #[U G 0,U G 0,U G 0],.bool E_]) w'/\bW w1 w')
        ((refine a0 _ ?_;(repeat' first|assumption|exact RS _ _|exact au|refine Um ?_|refine TR ?_ ?_ _|(simp;done)|(simp;omega)))) (fail)
       all_goals go_wp2_with fail
       all_goals go_meet
       all_goals refine⟨rfl,?_⟩
       all_goals(repeat' first|assumption|exact RS _ _|exact au|refine Um ?_|refine TR ?_ ?_ _|(simp;done)|(simp;omega))
      case rest=>
       obtain⟨rfl,P⟩:=hcut;have a4:=ah (aJ b2 P);have N:Hid (iM wc w.heap.size p):=aL c8 P au;have f:Hid (Bk wc bb m b):=H.below a4 au;clear P a3 a0 a5 lb lx;go_wp2_with fail;have n0:aF wc bb 0 (E (A_ ⟨b.ab,0,B_⟩)):=aj (j:=0) f.at_.box rfl;have nb:¬bF b.ab b.vs b.vf bb:=λe=>f.at_.Nc e
       have nx:¬bF b.ab b.vs b.vf w.heap.size:=λe=>P_ _ (H.at_.ar.lt e)
       have b5:Hid (∀w',Out (bF b.ab b.vs b.vf) wc w'->(aF w' bb 0 (E (A_ ⟨b.ab,0,B_⟩))/\aF w' w.heap.size 0 (U G p.id)/\aF w' w.heap.size 1 (U G p.side)/\aF w' w.heap.size 2 (U G p.kind)/\aF w' w.heap.size 3 (U G p.price)/\aF w' w.heap.size 4 (U G p.ak)/\Out (bF b.ab b.vs b.vf) wc w')):=
        λw' ho=>⟨aj (j:=0) (aH f.at_.box ho nb) rfl,aj (j:=0) (aH N ho nx) rfl,aj (j:=1) (aH N ho nx) rfl,aj (j:=2) (aH N ho nx) rfl,aj (j:=3) (aH N ho nx) rfl,aj (j:=4) (aH N ho nx) rfl,ho⟩
       have a3:=b5 wc (Tz _ _);have lx:=SK N;have d0:b.rs.length<=1000000:=by have:=H.ok.so.small;have:=H.steps;omega
       have c5:=ah H.ok.so.cnt;clear n0
       by_cases Q:(b.S 0).length+(b.S 1).length=100
       ·have HF:=ah Q;have HC:Hid ((jf b.rs:Int)=100):=by show _=_;rw[H.out.ok.cnt];omega
        clear Q
        go_region_held3 (λw'=>aF w' bb 0 (E (A_ ⟨b.ab,0,B_⟩))/\aF w' w.heap.size 0 (U G p.id)/\aF w' w.heap.size 1 (U G p.side)/\aF w' w.heap.size 2 (U G p.kind)/\aF w' w.heap.size 3 (U G p.price)/\aF w' w.heap.size 4 (U G p.ak)/\Out (bF b.ab b.vs b.vf) wc w')
         ((refine b5 _ ?_;(repeat' first|assumption|exact Tz _ _|refine fI ?_|refine ug ?_ _|refine iU ?_ C|refine Af ?_ ?_|(simp;done)|(simp;omega)|(have h9:=C.size;simp at h9⊢;omega))))
         (first|(go_at_call 227;refine(bAh b.ab 100 b.vs b.vf b.rs b.fr p _ (f.at_.ar.below (B:=wc.heap.size) ?_ au) d0 c5 HC).mono ?_;(repeat' first|assumption|exact RS _ _|exact au|refine Um ?_|refine TR ?_ ?_ _|(simp;done)|(simp;omega));rintro e w2 ⟨rfl,P⟩;have l:=P;have C:=Sz (S:=bF b.ab b.vs b.vf) P au;try(have F:=(P.block wc.heap.size s7).trans (RU wc _);have y0:=aj (j:=0) F rfl;have y1:=aj (j:=1) F rfl;have y2:=aI (j:=0) F;have y3:=aI (j:=1) F)))
        all_goals go_wp2_with fail
        all_goals go_ret
        all_goals refine HP _ _ (RN (RN (RP ⟨HS,HI,HR,v.out▸HL.out,HF,rfl,Goes.stay H (aJ a4 ?_) (Uk _) hm⟩)))
        all_goals(repeat' first|assumption|exact RS _ _|exact au|refine Um ?_|refine TR ?_ ?_ _|refine aJ ?_ l|refine Below.setCell ?_ ?_ _|(simp;done)|(simp;omega)|(have h9:=l.size;simp at h9⊢;omega))
       ·have HF:Hid ((b.S 0).length+(b.S 1).length<100):=by show _<_;have:=H.ok.most;omega
        have HC:Hid (¬(jf b.rs:Int)=100):=by show¬_;rw[H.out.ok.cnt];omega
        obtain⟨k,D,I,hR⟩:=bDz H.ok.so;obtain⟨hk,_,_,_,_⟩:=Ol H.ok.so hR;have b4:=ah hR;clear Q hR;generalize e4:(aW D k).2=ag;have c4:=ah e4;clear e4;go_cut [7,8] from 43 to 51 (λp7 p8 wd=>p8=.nilIface/\∃(A:Nat) (r q:D_),p7=E (A_ ⟨A,0,B_⟩)/\wc.heap.size<=A/\eB wd A #[U G k,U G ag] 206/\bJ wd b.ab 100 r q (D.set k (A_ p,ag)) I/\Out (bF b.ab b.vs b.vf) wc wd/\aK wc (bF b.ab b.vs b.vf) (bF b.ab r q))
        case first=>
         go_region_held3 (λw'=>aF w' bb 0 (E (A_ ⟨b.ab,0,B_⟩))/\aF w' w.heap.size 0 (U G p.id)/\aF w' w.heap.size 1 (U G p.side)/\aF w' w.heap.size 2 (U G p.kind)/\aF w' w.heap.size 3 (U G p.price)/\aF w' w.heap.size 4 (U G p.ak)/\Out (bF b.ab b.vs b.vf) wc w')
          ((refine b5 _ ?_;(repeat' first|assumption|exact Tz _ _|refine fI ?_|refine ug ?_ _|refine iU ?_ C|refine Af ?_ ?_|(simp;done)|(simp;omega)|(have h9:=C.size;simp at h9⊢;omega))))
          (first|(go_at_call 227;refine(bAg b.ab 100 b.vs b.vf b.rs b.fr p k D I _ (f.at_.ar.below (B:=wc.heap.size) ?_ au) d0 c5 HC b4 hk).mono ?_;(repeat' first|assumption|exact RS _ _|exact au|refine Um ?_|refine TR ?_ ?_ _|(simp;done)|(simp;omega));rw[c4.out];rintro e w2 ⟨rfl,r,q,e3,C,d5⟩;try(have F:=aH (w:=(wc.alloc (R #[U G 0,U G 0] 206)).drew) (RU wc _) C (λe=>P_ _ (f.at_.ar.lt e));have y0:=aj (j:=0) F rfl;have y1:=aj (j:=1) F rfl;have y2:=aI (j:=0) F;have y3:=aI (j:=1) F)))
         ·go_wp2_with fail;go_meet;exact⟨rfl,w2.heap.size,r,q,rfl,C.size,RU w2 _,e3.below (aM _ _) au,ug (iU (fI (Tz _ wc)) C) _,d5⟩
         ·go_wp2_with fail;go_meet;have s3:=(bL w2 ⟨wc.heap.size,0,B_⟩ (U G k)).trans (bL _ ⟨wc.heap.size,1,B_⟩ (U G ag)) (aK.refl _ _);refine⟨rfl,wc.heap.size,r,q,rfl,au,bg (j:=1) _ (bg (j:=0) _ F),e3.out s3 (λj W e=>?_),Af (Af (iU (fI (ug (Tz _ wc) _)) C) au) au,λj W=>(d5 j W).imp id (λh4=>by simp at h4;omega)⟩;have e':j=wc.heap.size:=e;rcases d5 j W with h4|h4
          ·have:=f.at_.ar.lt h4;omega
          ·simp at h4;omega
        case rest=>
         obtain⟨rfl,A,r,q,rfl,e8,hh,ha,ho,f1⟩:=hcut;have d6:=aH N ho nx;have e2:=ah d6;have d8:=ah hh;have c2:=ah (f.at_.Ia ho ha);have c7:Hid (Out (b.foot bb) w wc):=(Sz a4 au).trans (ho.mono (S':=b.foot bb) (λj W=>RN (RP W))) (aK.refl _ _);have d9:Hid (aK w (bF b.ab b.vs b.vf) (bF b.ab r q)):=λj W=>(f1 j W).imp id (λh4=>RV a4.size h4)
         have f2:Hid (w.heap.size+1<=A):=RV lx e8;clear ho f1 e8 a3 nb nx b5 HC d0 c5 lx N a4 f
         obtain⟨s,c,d3⟩:∃s:Nat,s<2/\p.side=(s:Int)+1:=by
          have h1:=HS.out;rw[<-b3.out]at h1;unfold qE at h1;simp only[XD,beq_iff_eq]at h1;rcases h1 with h1|h1
          ·exact⟨0,d7,by rw[h1];rfl⟩
          ·exact⟨1,d7,by rw[h1];rfl⟩
         have f4:IntKind.i64.wrap (p.side - 1)=(s:Int):=by rw[d3,show(s:Int)+1 - 1=s by omega];exact Vr _ o7
         have V:=ah d3;have z0:=aj (j:=0) hh rfl;have z1:=aj (j:=1) hh rfl;have z2:=aj (j:=1) d6 rfl;clear d3 hh d6 ha;go_upto_region 14 with fail;have a2:=aM wc (R #[U G k,U G ag,U G s] 208);have b9:=RU wc (R #[U G k,U G ag,U G s] 208);have b8:w.heap.size<=wc.heap.size:=c7.size;generalize wc.alloc (R #[U G k,U G ag,U G s] 208)=we at a2 b9⊢;have a1:Hid (iM we w.heap.size p):=aL e2 a2 au;have c3:Hid (eB we A #[U G k,U G ag] 206):=aL d8 a2 au;have d:Hid (dL we bb b.ab b.mb b.n r q b.v0 b.v1 (D.set k (A_ p,ag)) I b.S):=c2.below a2 au;have e0:Hid (Out (b.foot bb) w we):=c7.trans (Sz a2 au) (aK.refl _ _);generalize wc.heap.size=pb at b9 b8⊢;have Z:=ah b9;clear a2 b9 e2 d8 c2 c7 z0 z1 z2;have d2:∀j,(eH b.v0 b.v1 s).ownBlock=A_ j->j<w.heap.size:=λj W=>H.lt (RN (RN (RN (Pv c W))))
         have nT:∀{j:Nat} {vs:Array D_} {t:RZ},eB we j vs t->w.heap.size<=j->¬((eH b.v0 b.v1 s).ownBlock=A_ j):=fun {j vs t} W hl e=>by
          have:=d2 _ e;omega
         have g:Hid (∀w',Out (λj=>(eH b.v0 b.v1 s).ownBlock=A_ j) we w'->(aF w' pb 2 (U G s)/\aF w' w.heap.size 0 (U G p.id)/\aF w' w.heap.size 1 (U G p.side)/\aF w' w.heap.size 2 (U G p.kind)/\aF w' w.heap.size 3 (U G p.price)/\aF w' w.heap.size 4 (U G p.ak)/\aF w' A 0 (U G k)/\aF w' A 1 (U G ag)/\aF w' bb (2+s) (eH b.v0 b.v1 s)/\Out (λj=>(eH b.v0 b.v1 s).ownBlock=A_ j) we w')):=λw' ho=>by
          have O:=aH Z ho (nT Z b8);have g2:=aH a1 ho (nT a1 au);have g3:=aH c3.out ho (nT c3.out (by have:=f2.out;omega));have g4:=aH d.box ho (d.mid.Oo c);exact⟨aj (j:=2) O rfl,aj (j:=0) g2 rfl,aj (j:=1) g2 rfl,aj (j:=2) g2 rfl,aj (j:=3) g2 rfl,aj (j:=4) g2 rfl,aj (j:=0) g3 rfl,aj (j:=1) g3 rfl,(Da g4 c).1,ho⟩
         have e1:Hid (∀x∈b.S s,aW (D.set k (A_ p,ag)) x.slot=(A_ x.o,x.age)):=λx X=>by
          obtain⟨h1,h2⟩:=(Ol H.ok.so b4).2.2.1 _ _ _ (H.ok.there s c x X);rw[vF _ (Ne.symm h1)];exact h2
         have b7:(b.S s).length<=1000:=by
          have h1:=(Ah b.S [] c).2;have h2:=H.out.ok.most;omega
         have e9:iW p ((b.S s).map Ly.o)<=(b.S s).length:=by
          have:=bDd p ((b.S s).map Ly.o)
          simpa using this
         have q1:(0:Int)<=(s:Int):=o7;have q2:(s:Int)<2:=o7;clear nT;refine JJ (λw'=>aF w' pb 2 (U G s)/\aF w' w.heap.size 0 (U G p.id)/\aF w' w.heap.size 1 (U G p.side)/\aF w' w.heap.size 2 (U G p.kind)/\aF w' w.heap.size 3 (U G p.price)/\aF w' w.heap.size 4 (U G p.ak)/\aF w' A 0 (U G k)/\aF w' A 1 (U G ag)/\aF w' bb (2+s) (eH b.v0 b.v1 s)/\Out (λj=>(eH b.v0 b.v1 s).ownBlock=A_ j) we w') (λi=>i == 21) k7 (g _ (fI (Tz _ _))) (λhHeld=>?_);refine dP 0 a7 ?_;refine dP 1 a7 ?_;refine dP 2 a7 ?_;refine dP 3 a7 ?_;refine dP 4 a7 ?_;refine dP 5 a7 ?_;refine dP 6 a7 ?_;refine dP 7 a7 ?_;refine dP 8 a7 ?_;refine dP 9 a7 ?_;refine dP 10 a7 ?_;refine dP 11 a7 ?_;refine dP 12 a7 ?_;refine dP 13 a7 ?_;refine dP 15 a7 ?_;refine dP 18 a7 ?_;refine dP 19 a7 ?_;refine mO (rs:=[14,16]) k7 s7 ?_;refine dK.cons rfl (λK u=>?_) (dK.cons rfl (λK u=>?_) dK.nil)
         ·go_simp;refine(aHb bb b.ab b.mb b.n s r q b.v0 b.v1 (D.set k (A_ p,ag)) I b.S p we _ c b7 e1 d (RS _ _).drew).mono ?_;rintro e w5 ⟨rfl,e7,l,e5,l5⟩;dsimp only;refine u.out _ _ (λ_=>g _ (Sz l au)) (λhHeld=>?_);replace hHeld:=hHeld rfl;clear u K;refine mO (rs:=[16]) k7 s7 ?_;refine dK.cons rfl (λK u=>?_) dK.nil;go_simp;refine u.out _ _ (λ_=>g _ (ug (Sz l au) _)) (λhHeld=>?_);replace hHeld:=hHeld rfl;clear u K;have c9:bW we (w5.alloc (R #[U G k,U G ag] 206)):=aJ l (aM _ _);have b1:=RU w5 (R #[U G k,U G ag] 206);have d4:=l.size;refine mO (rs:=[17]) k7 s7 ?_;refine dK.cons rfl (λK u=>?_) dK.nil;go_simp;refine(aDp _ _ bb b.ab b.mb b.n s r q b.v0 b.v1 (D.set k (A_ p,ag)) I b.S ⟨k,ag,p⟩ we _ c b7 e9 d c9 b1 d4).mono ?_;rintro e w6 ⟨g6,c6,rfl,b0,L,T,d1,e6,f6⟩;dsimp only;refine u.out _ _ (λ_=>g _ L) (λhHeld=>?_);replace hHeld:=hHeld rfl;clear u K;refine mO (rs:=[20]) k7 s7 ?_;refine dK.cons rfl (λK u=>?_) dK.nil;go_simp;refine u.out _ _ (λ_=>g _ L) (λhHeld=>?_);replace hHeld:=hHeld rfl;clear u K;refine mO (rs:=[21]) k7 s7 ?_;refine dK.cons rfl (λK u=>?_) dK.nil;go_simp;refine u.out _ _ (λh=>by cases h) (λ_=>?_);refine EX k7 ?_ _;go_wp2_with fail;obtain⟨z,hT⟩:=d.mid.newRow c b0 L T;generalize w6.setCell ⟨bb,2+s,B_⟩ (J (A_ ⟨g6,0,B_⟩) (fG (iW p ((b.S s).map Ly.o)) ⟨k,ag,p⟩ (b.S s)).length c6)=w7 at z hT⊢;obtain⟨w8,f0,a8,a9⟩:=(z.map.same (w':=w7.drew) rfl).put (x:=⟨k,ag,p⟩) (S':=dB b.S s (fG (iW p ((b.S s).map Ly.o)) ⟨k,ag,p⟩ (b.S s))) c (by show(Lit.int .i64 p.id).wf=G_;rw[v.out];exact HW) (by have:=H.small;omega) HL (λt _ y=>aG1 t y);have a6:Hid (Goes w w8 bb (m+1) b (Ko b s k ag p r q (J (A_ ⟨g6,0,B_⟩) (fG (iW p ((b.S s).map Ly.o)) ⟨k,ag,p⟩ (b.S s)).length c6) D I)):=Ql H hm c b4 c4 V (by rw[v.out];have:=HI;omega) (by rw[v.out];exact HW) HR HL HF e0 d9 T z hT a8 (iU (fI (Tz _ _)) a9)
          have nT:∀{j:Nat} {vs:Array D_} {t:RZ},eB we j vs t->t≠199->w.heap.size<=j->¬(j=bb\/(eH b.v0 b.v1 s).ownBlock=A_ j):=fun {j vs t} W ht hl e=>by
           rcases e with e|e
           ·exact kY W d.box ht e
           ·have:=d2 _ e;omega
          have O:=aH Z hT (nT Z d7 b8);have g2:=aH a1 hT (nT a1 d7 au)
          have M:Hid (∀w',Out (λj=>j=b.mb) w7 w'->(aF w' bb 1 (.map (A_ b.mb))/\aF w' w.heap.size 0 (U G p.id)/\aF w' pb 0 (U G k)/\aF w' pb 1 (U G ag)/\aF w' pb 2 (U G s)/\Out (λj=>j=b.mb) w7 w')):=λw' ho=>
           ⟨aj (j:=1) (aH z.box ho (z.map.ne z.box)) rfl,aj (j:=0) (aH g2 ho (z.map.ne g2)) rfl,aj (j:=0) (aH O ho (z.map.ne O)) rfl,aj (j:=1) (aH O ho (z.map.ne O)) rfl,aj (j:=2) (aH O ho (z.map.ne O)) rfl,ho⟩
          have a3:=M w7 (Tz _ _);have C:Out (λj=>j=b.mb) w7 w8:=iU (fI (Tz _ _)) a9;clear z hT a8 nT O g2 b0 L T d1 e6 f6 b1 hHeld
          go_region_held3 (λw'=>aF w' bb 1 (.map (A_ b.mb))/\aF w' w.heap.size 0 (U G p.id)/\aF w' pb 0 (U G k)/\aF w' pb 1 (U G ag)/\aF w' pb 2 (U G s)/\Out (λj=>j=b.mb) w7 w')
           ((refine M _ ?_;first|assumption|exact fI (Tz _ _))) (fail)
          go_wp2_with fail;go_ret;exact HP _ _ (RN (RN (RN ⟨HS,HI,HR,(λt ht x X=>v.out▸HL.out t ht x X),HF,rfl,_,s,k,ag,c,by rw[<-b3.out];exact V,rfl,a6⟩)))
         ·go_simp;refine u.out _ _ (λ_=>g _ (fI (ug (Tz _ _) _))) (λhHeld=>?_);replace hHeld:=hHeld rfl;clear u K;refine mO (rs:=[14]) k7 s7 ?_;refine dK.cons rfl (λK u=>?_) dK.nil;go_simp;refine(aHb bb b.ab b.mb b.n s r q b.v0 b.v1 (D.set k (A_ p,ag)) I b.S p we _ c b7 e1 d (aM _ _).drew).mono ?_;rintro e w5 ⟨rfl,e7,l,e5,l5⟩;dsimp only;refine u.out _ _ (λ_=>g _ (Sz l au)) (λhHeld=>?_);replace hHeld:=hHeld rfl;clear u K;have c9:=l;have b1:=(e7.block we.heap.size s7).trans (RU we (R #[U G k,U G ag] 206));have d4:we.heap.size<=we.heap.size:=au;refine mO (rs:=[17]) k7 s7 ?_;refine dK.cons rfl (λK u=>?_) dK.nil;go_simp;refine(aDp _ _ bb b.ab b.mb b.n s r q b.v0 b.v1 (D.set k (A_ p,ag)) I b.S ⟨k,ag,p⟩ we _ c b7 e9 d c9 b1 d4).mono ?_;rintro e w6 ⟨g6,c6,rfl,b0,L,T,d1,e6,f6⟩;dsimp only;refine u.out _ _ (λ_=>g _ L) (λhHeld=>?_);replace hHeld:=hHeld rfl;clear u K;refine mO (rs:=[20]) k7 s7 ?_;refine dK.cons rfl (λK u=>?_) dK.nil;go_simp;refine u.out _ _ (λ_=>g _ L) (λhHeld=>?_);replace hHeld:=hHeld rfl;clear u K;refine mO (rs:=[21]) k7 s7 ?_;refine dK.cons rfl (λK u=>?_) dK.nil;go_simp;refine u.out _ _ (λh=>by cases h) (λ_=>?_);refine EX k7 ?_ _;go_wp2_with fail;obtain⟨z,hT⟩:=d.mid.newRow c b0 L T;generalize w6.setCell ⟨bb,2+s,B_⟩ (J (A_ ⟨g6,0,B_⟩) (fG (iW p ((b.S s).map Ly.o)) ⟨k,ag,p⟩ (b.S s)).length c6)=w7 at z hT⊢;obtain⟨w8,f0,a8,a9⟩:=(z.map.same (w':=w7.drew) rfl).put (x:=⟨k,ag,p⟩) (S':=dB b.S s (fG (iW p ((b.S s).map Ly.o)) ⟨k,ag,p⟩ (b.S s))) c (by show(Lit.int .i64 p.id).wf=G_;rw[v.out];exact HW) (by have:=H.small;omega) HL (λt _ y=>aG1 t y);have a6:Hid (Goes w w8 bb (m+1) b (Ko b s k ag p r q (J (A_ ⟨g6,0,B_⟩) (fG (iW p ((b.S s).map Ly.o)) ⟨k,ag,p⟩ (b.S s)).length c6) D I)):=Ql H hm c b4 c4 V (by rw[v.out];have:=HI;omega) (by rw[v.out];exact HW) HR HL HF e0 d9 T z hT a8 (iU (fI (Tz _ _)) a9)
          have nT:∀{j:Nat} {vs:Array D_} {t:RZ},eB we j vs t->t≠199->w.heap.size<=j->¬(j=bb\/(eH b.v0 b.v1 s).ownBlock=A_ j):=fun {j vs t} W ht hl e=>by
           rcases e with e|e
           ·exact kY W d.box ht e
           ·have:=d2 _ e;omega
          have O:=aH Z hT (nT Z d7 b8);have g2:=aH a1 hT (nT a1 d7 au)
          have M:Hid (∀w',Out (λj=>j=b.mb) w7 w'->(aF w' bb 1 (.map (A_ b.mb))/\aF w' w.heap.size 0 (U G p.id)/\aF w' pb 0 (U G k)/\aF w' pb 1 (U G ag)/\aF w' pb 2 (U G s)/\Out (λj=>j=b.mb) w7 w')):=λw' ho=>
           ⟨aj (j:=1) (aH z.box ho (z.map.ne z.box)) rfl,aj (j:=0) (aH g2 ho (z.map.ne g2)) rfl,aj (j:=0) (aH O ho (z.map.ne O)) rfl,aj (j:=1) (aH O ho (z.map.ne O)) rfl,aj (j:=2) (aH O ho (z.map.ne O)) rfl,ho⟩
          have a3:=M w7 (Tz _ _);have C:Out (λj=>j=b.mb) w7 w8:=iU (fI (Tz _ _)) a9;clear z hT a8 nT O g2 b0 L T d1 e6 f6 b1 hHeld
          go_region_held3 (λw'=>aF w' bb 1 (.map (A_ b.mb))/\aF w' w.heap.size 0 (U G p.id)/\aF w' pb 0 (U G k)/\aF w' pb 1 (U G ag)/\aF w' pb 2 (U G s)/\Out (λj=>j=b.mb) w7 w')
           ((refine M _ ?_;first|assumption|exact fI (Tz _ _))) (fail)
          go_wp2_with fail;go_ret;exact HP _ _ (RN (RN (RN ⟨HS,HI,HR,(λt ht x X=>v.out▸HL.out t ht x X),HF,rfl,_,s,k,ag,c,by rw[<-b3.out];exact V,rfl,a6⟩)))
end
end Go.Proofs.YtpodibeogglplaaGreatDoor
