/- ManyWorkers -/
import Derived.Test.YtpodibeogglplaaGreatDoorVB
open Go.RowKit Go.Shelf
open Go.Value renaming int->U, pointer->E, slice->J
open Go.IntKind renaming i64->G
open Go.Obj renaming cells->R
open Go.Ending renaming returned->Y
open Go.Proofs.Tryz
open Bool renaming true->G_, false->E_, false_or->XU
open Go renaming World->C_, Value->D_, TypeId->RZ, Calls->Sj, lt_of_block->SK, heap_alloc_new->RU, bodyPost_ret->UA, callsIn_wide->UY
open Go.KeepsOthers renaming setCell->Xc
open Go.Proofs.YtpodibeogglplaaGreatDoor.Ord renaming agg->Ve, none_->d_
open Go.Proofs.YtpodibeogglplaaGreatDoor.Out renaming of_below->Sz, refl->Tz
open Go.Proofs.YtpodibeogglplaaGreatDoor.aK renaming refl->Tc
open Go.RowKit renaming Below->Sd
open Go.RowKit.Below renaming refl->RS, drew->Um, alloc->TR
open Go.Value renaming int->SX, ownBlock->Uf
open Go.Value.slice renaming injEq->TD
open List renaming nil_append->Tn, getD_eq_getElem?_getD->SY, getElem?_append_right->Wj, drop_eq_getElem_cons->Tt, append_assoc->WZ, take_append_drop->WA, length_cons->SC, length_nil->Ui, map_append->TY, nodup_append->XA, map_cons->RY, nodup_cons->VP, mem_map->Ti, mem_cons_of_mem->SI, mem_cons->SB, mem_filter->Ua, pairwise_cons->Xn, filter_cons_of_pos->Uc, filter_cons_of_neg->Ub, filter_eq_self->XJ, filter_append->WL, filter_filter->Vi, filter_congr->Xz, takeWhile_cons->XK, map_congr_left->SF, length_map->TL, map_map->Vs, mem_cons_self->SG, length_append->Sl
open Nat renaming zero_le->Sv, reduceAdd->Ws, lt_succ_self->ZN, lt_irrefl->P_, lt_of_lt_of_le->Sn, le_trans->RV
open Option renaming some->A_, none->B_
open Or renaming inr->RN, inl->RP
set_option linter.all false
set_option maxHeartbeats 4000000
set_option maxRecDepth 100000
namespace Go.Proofs.YtpodibeogglplaaGreatDoor
variable {k i j:Nat} {w:C_} {u0 u1 u2:D_} {t:RZ} {m:Nat} {rs:List aT} {fr:List Nat} {x:Ly} {bb:Nat} {W a:C_} {α:Type} {o:Ord} {l:List Ord} {side:Int} {rank:α->Int} {p:Ord} {L:List Ord} {n:Int} {T:List Ord}
def aVc{l:List Ly}(x:Ly)(h:k<l.length):((hV l).set (k*2) (U G x.slot)).set (k*2+1) (U G x.age)=hV (l.set k x):=by
 induction l generalizing k with
 |nil=>simp at h
 |cons r rs ih=>
  cases k with
  |zero=>rfl
  |succ k=>
   have:=ih (k:=k) (by simpa using h);rw[show(k+1)*2=k*2+1+1 by omega];simp only[hV,List.set_cons_succ];rw[<-this]
def om(i j:Nat)(l:List Ly):List Ly:=l.take i++((l.take j).drop (i+1)++l.drop (j - 1))
def bFc{l:List Ly}(a:i<l.length):om i (i+1) l=l:=by
 unfold om;rw[List.drop_of_length_le (by simp;omega),Tn];simp
def aH8{l:List Ly}(h1:i<j)(h2:j<=l.length):(om i j l).length=l.length:=by
 unfold om;simp;omega
def bFa{l:List Ly}(h1:i<j)(h2:j<l.length):dR (om i j l) j=dR l j:=by
 unfold dR om;rw[SY,SY,Wj (by simp;omega),Wj (by simp;omega),List.getElem?_drop];simp
 congr 2
 omega
def bFd{l:List Ly}(h1:i<j)(h2:j<l.length):(om i j l).set (j - 1) (dR l j)=om i (j+1) l:=by
 have b:(l.take i).length=i:=by simp;omega
 have c:((l.take j).drop (i+1)).length=j - 1 - i:=by simp;omega
 unfold om;rw[List.set_append_right _ _ o7,List.set_append_right _ _ o7,b,c]
 congr 1
 rw[show j - 1 - i - (j - 1 - i)=0 by omega,show j+1 - 1=j by omega];obtain⟨a,rfl⟩:∃a,j=a+1:=⟨j - 1,o7⟩;rw[show a+1 - 1=a by omega,Tt (show a<l.length by omega),List.set_cons_zero]
 have e:(l.take (a+1+1)).drop (i+1)=(l.take (a+1)).drop (i+1)++[l[a+1]]:=by
  rw[List.take_succ_eq_append_getElem h2,List.drop_append_of_le_length (by simp;omega)]
 rw[e,WZ,yD h2];rfl
def gG(i:Nat)(l:List Ly):List Ly:=l.take i++l.drop (i+1)
def bBb{l:List Ly}(h:i<l.length):(gG i l).length=l.length - 1:=by unfold gG;simp;omega
def aF7{l:List Ly}(h:i<l.length):l.Perm (dR l i::gG i l):=by
 have h1:l=l.take i++dR l i::l.drop (i+1):=by rw[yD h,<-Tt h,WA]
 have h2:=List.perm_middle (a:=dR l i) (l₁:=l.take i) (l₂:=l.drop (i+1));rw[<-h1]at h2;exact h2
def bFb{l:List Ly}(h:i<l.length):(om i l.length l).take (l.length - 1)=gG i l:=by
 unfold om gG;rw[List.take_length,<-WZ,List.take_left' (by simp;omega)]
def pq(x:Ly)(k:Nat)(a:Int):Bool:=decide (x.slot=k)&& decide (x.age=a)
def aAt(d:Nat)(k:Nat)(a:Int)(s:Int)(x:Ly)(w:C_)(h:w.heap[d]? = A_ (R #[U G k,U G a,U G s] 208 (0,0))):
  Sj prog 139 #[.agg #[U G x.slot,U G x.age],E (A_ ⟨d,0,B_⟩)] w λe w'=>e=Y (.bool (pq x k a))/\Sd w.heap.size w w':=by
 have g:=aj (j:=0) h rfl;have i:=aj (j:=1) h rfl;have l:=SK h;clear h
 by_cases h1:x.slot=k
 ·by_cases h2:x.age=a
  ·have b:Hid (pq x k a=G_):=by show _=_;unfold pq;rw[RI h1,RI h2];rfl
   have c:((x.slot:Int) == (k:Int))=G_:=by rw[h1];exact beq_self_eq_true _
   have f:(x.age == a)=G_:=by rw[h2];exact beq_self_eq_true _
   clear h1 h2;go_enter func139,ntmps139;go_wp2;go_ret;exact⟨by rw[b.out];rfl,by(repeat' first|assumption|exact RS _ _|exact au|refine Um ?_|refine TR ?_ ?_ _|(simp;done)|(simp;omega))⟩
  ·have b:Hid (pq x k a=E_):=by show _=_;unfold pq;rw[RH h2,Bool.and_false]
   have c:((x.slot:Int) == (k:Int))=G_:=by rw[h1];exact beq_self_eq_true _
   have f:=RG.2 h2;clear h1 h2;go_enter func139,ntmps139;go_wp2;go_ret;exact⟨by rw[b.out];rfl,by(repeat' first|assumption|exact RS _ _|exact au|refine Um ?_|refine TR ?_ ?_ _|(simp;done)|(simp;omega))⟩
 ·have b:Hid (pq x k a=E_):=by show _=_;unfold pq;rw[RH h1,Bool.false_and]
  have c:((x.slot:Int) == (k:Int))=E_:=RG.2 o7;clear h1;go_enter func139,ntmps139;go_wp2;go_ret;exact⟨by rw[b.out];rfl,by(repeat' first|assumption|exact RS _ _|exact au|refine Um ?_|refine TR ?_ ?_ _|(simp;done)|(simp;omega))⟩
def aVu(x k i g cap:Nat)(a s:Int)(l:List Ly)(w:C_)(y:w.ownsRow 0 206 2 (J (A_ ⟨g,0,B_⟩) l.length cap) l.length (hV l))(H:l.length<=1000)(hi:i<l.length)(d:pq (dR l i) k a=G_)(n:∀j,j<i->pq (dR l j) k a=E_)(hp:w.heap[x]? = A_ (R #[U G k,U G a,U G s] 208 (0,0))):
  Sj prog 194 #[J (A_ ⟨g,0,B_⟩) l.length cap,.func (.func 139) #[] #[E (A_ ⟨x,0,B_⟩)]] w λe w'=>e=Y (U G i)/\Sd w.heap.size w w':=by
 have B:=ah y;have A:=ah hp;have q:=ah d;have r:=ah n;clear y hp d n;go_enter func194,ntmps194;go_wp2_with fail;go_loopw [8] (λv wr=>∃j:Nat,j<=i/\v=U G j/\Sd w.heap.size w wr) (λv _=>l.length - (intOf v).toNat)
 case atStart=>exact⟨0,Sv _,rfl,RS _ _⟩
 case round=>
  obtain⟨j,F,rfl,p⟩:=hrel;have z:=ah p;have b:=jw B.out p au;have m:j<l.length:=o7;have C:=(b.cellAt (j*2) o7).trans (Bz m).1;have D:=(b.cellAt (j*2+1) o7).trans (Bz m).2;have o:=aL A.out p au;have t:Hid _:=o;clear b p o;go_wp2_with fail;refine(aAt x k a s (dR l j) _ t.out).mono ?_;rintro e w1 ⟨rfl,f⟩;have c:=ah (aJ z.out f);clear f C D
  by_cases u:j=i
  ·subst u;rw[q.out];go_wp2_with fail;go_ret;exact⟨rfl,c.out⟩
  ·rw[r.out j o7];go_wp2_with fail;go_roundw
   case rel=>exact⟨j+1,o7,by go_num,c.out⟩
   case measure=>simp[intOf];omega
def bJa(w:C_):(zeroValue 206).run prog w=.ok (.agg #[U G 0,U G 0]) w:=k7
def bEc(W:C_)(g o c:Nat)(a:Array D_)(t:RZ)(e:W.heap[g]? = A_ (R a t (0,0)))(b:o+2<=a.size):
  ∃W',(∀ty,(Builtin.clear_ #[196] ty #[J (A_ ⟨g,o,B_⟩) 1 c]).run prog W=.ok (.tuple #[]) W')
   /\W'.heap[g]? = A_ (R (a.toList.take o++[SX .i64 0,SX .i64 0]++a.toList.drop (o+2)).toArray t (0,0))/\Out (λj=>j=g) W W':=by
 refine⟨W.setRow g (a.toList.take o++[SX .i64 0,SX .i64 0]++a.toList.drop (o+2)).toArray,λty=>?_,setRow_heap W g _ _ t _ e,⟨rfl,rfl,rfl,by simp[World.setRow],λj _ f=>setRow_other W g j _ f⟩⟩;have d:=run_storeCells_at prog g o t [SX .i64 0,SX .i64 0] 0 a W e (by simpa using b) (by simp[Value.oneCell']);have l:=bJa W;have k:=run_underlying (P:=prog) underlying196 (w:=W);simp only[Nat.add_zero,SC,Ui,Nat.zero_add,Ws]at d;simp[Builtin.clear_,k,l,Builtin.zeroCells,Value.cells];rw[show List.map (λi=>[SX .i64 0,SX .i64 0][i % 2]?.getD default) (List.range 2)=[SX .i64 0,SX .i64 0] from rfl,d];simp
def aPm(Q k i g cap:Nat)(a s:Int)(l:List Ly)(w:C_)(M:w.ownsRow 0 206 2 (J (A_ ⟨g,0,B_⟩) l.length cap) l.length (hV l))(hl:l.length<=1000)(hi:i<l.length)(C:pq (dR l i) k a=G_)(K:∀j,j<l.length->j≠i->pq (dR l j) k a=E_)(hp:w.heap[Q]? = A_ (R #[U G k,U G a,U G s] 208 (0,0))):
  Sj prog 138 #[J (A_ ⟨g,0,B_⟩) l.length cap,.func (.func 139) #[] #[E (A_ ⟨Q,0,B_⟩)]] w
   λe w'=>e=Y (J (A_ ⟨g,0,B_⟩) (gG i l).length cap)/\w'.ownsRow 0 206 2 (J (A_ ⟨g,0,B_⟩) (gG i l).length cap) (gG i l).length (hV (gG i l))/\Out (λj=>j=g) w w':=by
 have a0:Q≠g:=λe=>bM M hp d7 (by rw[e];rfl)
 have F:l.length<=cap/\cap<=maxLen:=by
  obtain⟨_,_,e,h1,h2⟩:=lJ M;simp only[TD,true_and]at e;omega
 unfold maxLen at F;have HR:=ah M;have HP:=ah hp;have T:=ah C;have A:=ah K;have lg:g<w.heap.size:=(M.lt g rfl).2;clear M hp C K;go_enter func138,ntmps138;go_wp2_with fail;refine(aVu Q k i g cap a s l _ HR.out hl hi T.out (λj o=>A.out j o7 o7) HP.out).mono ?_;rintro e w0 ⟨rfl,D⟩;have y:=ah D;clear D;go_wp2_with fail;go_loopw [5,6] (λv u wr=>∃n:Nat,i<=n/\n+1<=l.length/\v=U G n/\u=U G (n+1:Nat)/\wr.ownsRow 0 206 2 (J (A_ ⟨g,0,B_⟩) l.length cap) l.length (hV (om i (n+1) l))/\Out (λj=>j=g) w wr) (λ_ u _=>l.length - (intOf u).toNat)
 case atStart=>exact⟨i,au,o7,rfl,by go_num,by rw[bFc hi];exact jw HR.out y.out au,Sz y.out au⟩
 case round=>
  obtain⟨n,a4,a5,rfl,rfl,c,t⟩:=hrel;have B:=ah c;have q:=ah t
  by_cases r:n+1<l.length
  ·have N:(om i (n+1) l).length=l.length:=aH8 o7 o7;have hv:=Bz (l:=om i (n+1) l) (k:=n+1) o7;rw[bFa o7 r]at hv;have c0:=(c.cellAt ((n+1)*2) o7).trans hv.1;have c1:=(c.cellAt ((n+1)*2+1) o7).trans hv.2;have q0:(0:Int)<=((n+1:Nat):Int):=o7;have q1:((n+1:Nat):Int)<(l.length:Int):=o7;clear c t hv;go_wp2_with fail;have f:=aM wr (R #[U G (dR l (n+1)).slot,U G (dR l (n+1)).age] 206);have P:=RU wr (R #[U G (dR l (n+1)).slot,U G (dR l (n+1)).age] 206);refine(aAt Q k a s (dR l (n+1)) _ (aL (aH HP.out q.out a0) f au)).mono ?_;rintro e w1 ⟨rfl,d⟩;rw[A.out (n+1) r o7];have x:=aL P d au;have b:=jw B.out (aJ f d) au;have W:=ah b;have V:Hid (Out (λj=>j=g) w w1):=q.out.trans (Sz (aJ f d) au) (Tc _ _);have a7:wr.heap.size≠g:=by have:=(B.out.lt g rfl).2;omega
   have v0:=aj (j:=0) x rfl;have v1:=aj (j:=1) x rfl;have hv:=Bz (l:=om i (n+1) l) (k:=n) o7;have d0:=(b.cellAt (n*2) o7).trans hv.1;have d1:=(b.cellAt (n*2+1) o7).trans hv.2;have f0:=b.frozenAt (n*2);have f1:=b.frozenAt (n*2+1);have r0:(0:Int)<=(n:Int):=o7;have r1:(n:Int)<(l.length:Int):=o7;clear d f P x b hv c0 c1;go_wp2_with fail;go_roundw
   case rel=>
    obtain⟨s1,s2⟩:=W.out.stored (n*2) (U G (dR l (n+1)).slot);obtain⟨s3,s4⟩:=s1.stored (n*2+1) (U G (dR l (n+1)).age);have O:=bFd (i:=i) (j:=n+1) (l:=l) o7 r;rw[show n+1 - 1=n by omega]at O;rw[aVc _ o7,O]at s3;have s5:Out (λj=>j=g) w _:=(V.out.trans (Out.uf s2 (λj o=>by injection o with o;exact o.symm)) (Tc _ _)).trans (Out.uf s4 (λj o=>by injection o with o;exact o.symm)) (Tc _ _)
    (repeat apply Exists.intro)
    refine⟨⟨n+1,o7,o7,?_,?_,s3,s5⟩,rfl⟩
    ·go_num
    ·go_num
   case measure=>simp[intOf];omega
  ·have I:l.length=n+1:=o7;have N:(om i (n+1) l).length=l.length:=aH8 o7 o7;rcases c.2 with⟨S,_⟩|⟨g',a2,X,S,_,hg,a6,a3,m,ht⟩
   ·simp at S
   simp only[TD,Option.some.injEq,Addr.mk.injEq,and_true,true_and]at S;obtain⟨rfl,rfl⟩:=S;obtain⟨W1,p,H,L⟩:=bEc wr g (n*2) (cap - n) X 206 hg (by rw[m];omega);have Z:=bBb hi
   have z:Hid (W1.ownsRow 0 206 2 (J (A_ ⟨g,0,B_⟩) n cap) n (hV (gG i l))/\Out (λj=>j=g) w W1/\(gG i l).length=n):=by
    refine⟨⟨by rw[wR];omega,RN ⟨g,cap,_,rfl,Sv _,H,o7,by unfold maxLen;omega,?_,?_⟩⟩,q.out.trans L (Tc _ _),o7⟩
    ·simp[m];omega
    ·dsimp only;rw[WZ,List.take_append_of_le_length (by simp[m];omega),List.take_of_length_le (by simp;omega),<-bFb hi,I,show n+1 - 1=n by omega,<-aVd o7,<-ht,List.take_take]
     congr 1
     omega
   have a1:∀ty,(Builtin.clear_ #[196] ty #[J (A_ ⟨g,n*2,B_⟩) (l.length - n) (cap - n)]).run prog wr=.ok (.tuple #[]) W1:=by rw[show l.length - n=1 by omega];exact p
   have q0:(0:Int)<=(n:Int):=o7;have q1:(n:Int)<=(l.length:Int):=o7;have q2:¬(cap=n):=o7;have q3:n<=cap:=o7;have q4:n<=l.length:=o7;clear c t p H L hg m ht N Z I;go_wp2_with fail;go_ret;obtain⟨h1,h2,h3⟩:=z.out;rw[h3];exact⟨rfl,h1,h2⟩
section
attribute [local go_sem ↓] Go.wp_at_zero Go.wp_at_succ
def five(w:C_)(b:Nat)(o:Ord):C_:=((((w.setCell ⟨b,0,B_⟩ (U G o.id)).setCell ⟨b,1,B_⟩ (U G o.side)).setCell ⟨b,2,B_⟩ (U G o.kind)).setCell ⟨b,3,B_⟩ (U G o.price)).setCell ⟨b,4,B_⟩ (U G o.ak)
def xA(w:C_)(b:Nat)(k a s:Int):C_:=((w.setCell ⟨b,0,B_⟩ (U G k)).setCell ⟨b,1,B_⟩ (U G a)).setCell ⟨b,2,B_⟩ (U G s)
def Lu(w:C_)(b:Nat)(o:Ord):Out (λj=>j=b) w (five w b o):=aF9 w b _ _ _ _ _
def aJa(w:C_)(b:Nat)(k a s:Int):Out (λj=>j=b) w (xA w b k a s):=
 ((bL w ⟨b,0,B_⟩ _).trans (bL _ ⟨b,1,B_⟩ _) (Tc _ _)).trans (bL _ ⟨b,2,B_⟩ _) (Tc _ _)
def aT2{b:Nat}{u3 u4:D_}(o:Ord)(h:w.heap[b]? = A_ (R #[u0,u1,u2,u3,u4] t (0,0))):(five w b o).heap[b]? = A_ (R #[U G o.id,U G o.side,U G o.kind,U G o.price,U G o.ak] t (0,0)):=
 bg (j:=4) _ (bg (j:=3) _ (bg (j:=2) _ (bg (j:=1) _ (bg (j:=0) _ h))))
def bHj{b:Nat}(k a s:Int)(h:w.heap[b]? = A_ (R #[u0,u1,u2] t (0,0))):(xA w b k a s).heap[b]? = A_ (R #[U G k,U G a,U G s] t (0,0)):=
 bg (j:=2) _ (bg (j:=1) _ (bg (j:=0) _ h))
def BX(x:Ly)(s:Nat):D_:=.agg #[U G x.slot,U G x.age,U G s]
def aB3(bb m:Nat)(b:aU)(id:Int)(w:C_)(h:Bk w bb m b)(g:(Lit.int .i64 id).wf=G_)(d:∀s,s<2->∀x∈b.S s,x.o.id≠id):
  Sj prog 137 #[E (A_ ⟨bb,0,B_⟩),U G id] w λe W'=>e=Y (.tuple #[Ord.none_.agg,.agg #[U G 0,U G 0,U G 0],.iface 30 (U G 7)])/\Sd w.heap.size w W':=by
 have a:=gu w (R #[U G 0,U G 0,U G 0,U G 0,U G 0] 155) (R #[U G 0,U G 0,U G 0] 208);have c:=h.below a au;have i:w.cell? ⟨bb,1,B_⟩=A_ (.map (A_ b.mb)):=aj (j:=1) h.at_.box rfl;have f:=c.at_.map.no d g;have lb:bb<w.heap.size:=h.lt (RP rfl);clear h c d g a;go_enter func137,ntmps137;go_wp2;refine UA (by simp[results,results137,go_sem];try rfl) rfl ?_;refine⟨rfl,?_⟩
 (repeat' first|assumption|exact RS _ _|exact au|refine Um ?_|refine TR ?_ ?_ _|(simp;done)|(simp;omega))
def Gl(bb m s:Nat)(b:aU)(x:Ly)(w:C_)(h:Bk w bb m b)(hs:s<2)(hx:x∈b.S s):
  Sj prog 137 #[E (A_ ⟨bb,0,B_⟩),U G x.o.id] w λe W'=>e=Y (.tuple #[x.o.agg,BX x s,.nilIface])/\Sd w.heap.size w W':=by
 have J:=gu w (R #[U G 0,U G 0,U G 0,U G 0,U G 0] 155) (R #[U G 0,U G 0,U G 0] 208);have V:=h.below J au;have m1:w.cell? ⟨bb,1,B_⟩=A_ (.map (A_ b.mb)):=aj (j:=1) h.at_.box rfl;have W:=V.at_.map.yes hs hx (h.ok.ok s hs x hx).2.1;have lb:bb<w.heap.size:=h.lt (RP rfl);have HO:=ah (h.ok.there s hs x hx);have H:=ah h;clear h V J;unfold Ve BX;go_enter func137,ntmps137;go_upto_region 4 with fail;have F:=gu w (R #[U G 0,U G 0,U G 0,U G 0,U G 0] 155) (R #[U G 0,U G 0,U G 0] 208);have g:=rz w (R #[U G 0,U G 0,U G 0,U G 0,U G 0] 155) (R #[U G 0,U G 0,U G 0] 208);have i:=pR w (R #[U G 0,U G 0,U G 0,U G 0,U G 0] 155) (R #[U G 0,U G 0,U G 0] 208);have I:((w.alloc (R #[U G 0,U G 0,U G 0,U G 0,U G 0] 155)).alloc (R #[U G 0,U G 0,U G 0] 208)).heap.size=w.heap.size+1+1:=by simp
 generalize(w.alloc (R #[U G 0,U G 0,U G 0,U G 0,U G 0] 155)).alloc (R #[U G 0,U G 0,U G 0] 208)=wq at F g i I⊢;have l:=aM wq (R #[U G x.slot,U G x.age,U G s] 208);have y:=RU wq (R #[U G x.slot,U G x.age,U G s] 208);rw[I]at y;have g:=aL g l au;have i:=aL i l au;have u:=aJ F l;generalize wq.alloc (R #[U G x.slot,U G x.age,U G s] 208)=wp at l g i y u⊢;have HB:=ah u;have a9:=ah g;have b3:=ah i;have q:=ah y;have M:Hid (Bk wp bb m b):=H.out.below u au;clear F l g i y u I m1 W
 have HS:Hid (∀w',Sd wp.heap.size wp w'->(w'.cell? ⟨bb,0,B_⟩=A_ (E (A_ ⟨b.ab,0,B_⟩))/\w'.cell? ⟨w.heap.size+1+1,0,B_⟩=A_ (U G x.slot)/\w'.cell? ⟨w.heap.size+1+1,1,B_⟩=A_ (U G x.age)/\Sd wp.heap.size wp w')):=λw' X=>
  ⟨aj (j:=0) (aL M.out.at_.box X au) rfl,aj (j:=0) (aL q.out X au) rfl,aj (j:=1) (aL q.out X au) rfl,X⟩
 have b5:=HS.out wp (RS _ _);go_cut [9,10] from 25 to 34 (λp9 b8 wd=>b8=.nilIface/\∃c,p9=E (A_ ⟨c,0,B_⟩)/\wp.heap.size<=c/\iM wd c x.o/\Sd wp.heap.size wp wd)
 case first=>
  go_region_held3 (λw'=>w'.cell? ⟨bb,0,B_⟩=A_ (E (A_ ⟨b.ab,0,B_⟩))/\w'.cell? ⟨w.heap.size+1+1,0,B_⟩=A_ (U G x.slot)/\w'.cell? ⟨w.heap.size+1+1,1,B_⟩=A_ (U G x.age)/\Sd wp.heap.size wp w')
   ((refine HS.out _ ?_;(repeat' first|assumption|exact RS _ _|exact au|refine Um ?_|refine TR ?_ ?_ _|refine aJ ?_ f|refine Below.setCell ?_ ?_ _|(simp;done)|(simp;omega)|(have h9:=f.size;simp at h9⊢;omega))))
   (first|(go_at_call 193;refine(Nh b.ab 100 b.vs b.vf b.rs b.fr x.slot x.o x.age _ (M.out.at_.ar.below (B:=wp.heap.size) ?_ au) HO.out).mono ?_;(repeat' first|assumption|exact RS _ _|exact au|refine Um ?_|refine TR ?_ ?_ _|(simp;done)|(simp;omega));rintro e w1 ⟨f,rfl⟩;unfold Ve;try(have a:=(f.block wp.heap.size s7).trans (RU wp _);have y0:=aj (j:=0) a rfl;have y1:=aj (j:=1) a rfl;have y2:=aj (j:=2) a rfl;have y3:=aj (j:=3) a rfl;have y4:=aj (j:=4) a rfl;have z0:=aI (j:=0) a;have z1:=aI (j:=1) a;have z2:=aI (j:=2) a;have z3:=aI (j:=3) a;have z4:=aI (j:=4) a)))
  ·go_wp2_with fail;go_meet;exact⟨rfl,w1.heap.size,rfl,f.size,RU w1 _,aJ (w1:=w1) (aJ (w:=wp) (w1:=wp.drew) (RS _ _).drew f) (aM _ _)⟩
  ·go_wp2_with fail;go_meet;refine⟨rfl,wp.heap.size,rfl,au,bg (j:=4) (U G x.o.ak) (bg (j:=3) (U G x.o.price) (bg (j:=2) (U G x.o.kind) (bg (j:=1) (U G x.o.side) (bg (j:=0) (U G x.o.id) a)))),?_⟩;have h8:Sd wp.heap.size wp w1:=aJ (aM wp _).drew f;exact((((h8.setCell (p:=⟨wp.heap.size,0,B_⟩) au _).setCell (p:=⟨wp.heap.size,1,B_⟩) au _).setCell (p:=⟨wp.heap.size,2,B_⟩) au _).setCell (p:=⟨wp.heap.size,3,B_⟩) au _).setCell (p:=⟨wp.heap.size,4,B_⟩) au _
 case rest=>
  obtain⟨rfl,c,rfl,b7,d,n⟩:=hcut;have k:=aL a9.out n au;have z:=aL b3.out n au;have T:=aL q.out n au;have lp:=SK q.out;have L:=ah (aJ HB.out n);have x0:=aj (j:=0) d rfl;have x1:=aj (j:=1) d rfl;have x2:=aj (j:=2) d rfl;have x3:=aj (j:=3) d rfl;have x4:=aj (j:=4) d rfl;have p0:=aj (j:=0) T rfl;have p1:=aj (j:=1) T rfl;have p2:=aj (j:=2) T rfl;have n1:c≠w.heap.size:=o7;have n2:c≠w.heap.size+1:=o7;have b4:=ah d;have a6:=ah T;have Z:Hid _:=k;have a5:Hid _:=z;have a0:=aj (j:=0) k rfl;have a1:=aj (j:=1) k rfl;have a2:=aj (j:=2) k rfl;have a3:=aj (j:=3) k rfl;have a4:=aj (j:=4) k rfl;have b0:=aj (j:=0) z rfl;have b1:=aj (j:=1) z rfl;have b2:=aj (j:=2) z rfl;have f0:=aI (j:=0) k;have f1:=aI (j:=1) k;have f2:=aI (j:=2) k;have f3:=aI (j:=3) k;have f4:=aI (j:=4) k;have f5:=aI (j:=0) z;have f6:=aI (j:=1) z;have f7:=aI (j:=2) z;clear b5 HS n d k z T b7 lp;go_wp2_with fail
  have r:Hid (∀w',Out (λj=>j=w.heap.size\/j=w.heap.size+1) wc w'->(w'.cell? ⟨c,0,B_⟩=A_ (U G x.o.id)/\w'.cell? ⟨c,1,B_⟩=A_ (U G x.o.side)/\w'.cell? ⟨c,2,B_⟩=A_ (U G x.o.kind)/\w'.cell? ⟨c,3,B_⟩=A_ (U G x.o.price)/\w'.cell? ⟨c,4,B_⟩=A_ (U G x.o.ak)/\w'.cell? ⟨w.heap.size+1+1,0,B_⟩=A_ (U G x.slot)/\w'.cell? ⟨w.heap.size+1+1,1,B_⟩=A_ (U G x.age)/\w'.cell? ⟨w.heap.size+1+1,2,B_⟩=A_ (U G s)/\Out (λj=>j=w.heap.size\/j=w.heap.size+1) wc w')):=λw' ho=>by
   have k1:=aH b4.out ho (λe=>by rcases e with e|e<;>omega);have k2:=aH a6.out ho (λe=>by rcases e with e|e<;>omega);exact⟨aj (j:=0) k1 rfl,aj (j:=1) k1 rfl,aj (j:=2) k1 rfl,aj (j:=3) k1 rfl,aj (j:=4) k1 rfl,aj (j:=0) k2 rfl,aj (j:=1) k2 rfl,aj (j:=2) k2 rfl,ho⟩
  have b6:=r.out wc (Tz _ _);have D:Out (λj=>j=w.heap.size\/j=w.heap.size+1) wc (five wc w.heap.size x.o).drew:=fI ((Lu wc _ _).mono (λj v=>RP v));have t:Out (λj=>j=w.heap.size\/j=w.heap.size+1) wc (xA (five wc w.heap.size x.o) (w.heap.size+1) x.slot x.age s).drew:=fI (((Lu wc _ _).mono (λj v=>RP v)).trans ((aJa _ _ _ _ _).mono (λj v=>RN v)) (Tc _ _));have j1:(xA (five wc w.heap.size x.o) (w.heap.size+1) x.slot x.age s).heap[w.heap.size]? = A_ (R #[U G x.o.id,U G x.o.side,U G x.o.kind,U G x.o.price,U G x.o.ak] 155 (0,0)):=aH (aT2 (w:=wc) x.o Z.out) (aJa _ _ _ _ _) (λe=>Nat.ne_of_lt (ZN _) e);have j2:(xA (five wc w.heap.size x.o) (w.heap.size+1) x.slot x.age s).heap[w.heap.size+1]? = A_ (R #[U G x.slot,U G x.age,U G s] 208 (0,0)):=bHj (w:=five wc w.heap.size x.o) _ _ _ (aH (w:=wc) a5.out (Lu _ _ _) (λe=>Nat.ne_of_gt (ZN _) e));have k1:(xA (five wc w.heap.size x.o) (w.heap.size+1) x.slot x.age s).drew.heap[w.heap.size]? = A_ (R #[U G x.o.id,U G x.o.side,U G x.o.kind,U G x.o.price,U G x.o.ak] 155 (0,0)):=by rw[FY];exact j1
  have k2:(xA (five wc w.heap.size x.o) (w.heap.size+1) x.slot x.age s).drew.heap[w.heap.size+1]? = A_ (R #[U G x.slot,U G x.age,U G s] 208 (0,0)):=by rw[FY];exact j2
  clear j1 j2;have k3:Sd w.heap.size w (xA (five wc w.heap.size x.o) (w.heap.size+1) x.slot x.age s).drew:=L.out.trans (t.below (λj v=>by rcases v with v|v<;>omega) L.out.size);unfold xA five at t k1 k2 k3;unfold five at D;have a8:Hid _:=D;have Q:Hid _:=t;have N:Hid _:=k1;have O:Hid _:=k2;have P:Hid _:=k3;clear D t k1 k2 k3;clear x0 x1 x2 x3 x4 p0 p1 p2;refine JJ (λw'=>w'.cell? ⟨c,0,B_⟩=A_ (U G x.o.id)/\w'.cell? ⟨c,1,B_⟩=A_ (U G x.o.side)/\w'.cell? ⟨c,2,B_⟩=A_ (U G x.o.kind)/\w'.cell? ⟨c,3,B_⟩=A_ (U G x.o.price)/\w'.cell? ⟨c,4,B_⟩=A_ (U G x.o.ak)/\w'.cell? ⟨w.heap.size+1+1,0,B_⟩=A_ (U G x.slot)/\w'.cell? ⟨w.heap.size+1+1,1,B_⟩=A_ (U G x.age)/\w'.cell? ⟨w.heap.size+1+1,2,B_⟩=A_ (U G s)/\Out (λj=>j=w.heap.size\/j=w.heap.size+1) wc w') (λ_=>E_) k7 (r.out _ (fI (Tz _ _))) (λhHeld=>?_);refine dP 0 a7 ?_;refine dP 1 a7 ?_;refine dP 2 a7 ?_;refine mO (rs:=[3]) k7 s7 ?_;refine dK.cons rfl (λK A=>?_) dK.nil;go_simp;refine A.out _ _ (λ_=>r.out _ a8.out) (λhHeld=>?_);replace hHeld:=hHeld rfl;clear A K;refine mO (rs:=[4]) k7 s7 ?_;refine dK.cons rfl (λK A=>?_) dK.nil;go_simp;have C:=Q.out;have k1:=N.out;have k2:=O.out;have k3:=P.out;clear Q N O P;generalize((((((((wc.setCell ⟨w.heap.size,0,B_⟩ (U G x.o.id)).setCell ⟨w.heap.size,1,B_⟩ (U G x.o.side)).setCell ⟨w.heap.size,2,B_⟩ (U G x.o.kind)).setCell ⟨w.heap.size,3,B_⟩ (U G x.o.price)).setCell ⟨w.heap.size,4,B_⟩ (U G x.o.ak)).setCell ⟨w.heap.size+1,0,B_⟩ (U G x.slot)).setCell ⟨w.heap.size+1,1,B_⟩ (U G x.age)).setCell ⟨w.heap.size+1,2,B_⟩ (U G s)).drew=wz at C k1 k2 k3⊢;refine A.out _ _ (λ_=>r.out _ C) (λhHeld=>?_);replace hHeld:=hHeld rfl;have e0:=aj (j:=0) k1 rfl;have e1:=aj (j:=1) k1 rfl;have e2:=aj (j:=2) k1 rfl;have e3:=aj (j:=3) k1 rfl;have e4:=aj (j:=4) k1 rfl;have e5:=aj (j:=0) k2 rfl;have e6:=aj (j:=1) k2 rfl;have e7:=aj (j:=2) k2 rfl;clear A K a0 a1 a2 a3 a4 b0 b1 b2 f0 f1 f2 f3 f4 f5 f6 f7 b6 C k1 k2;refine mO (rs:=[5]) k7 s7 ?_;refine dK.cons rfl (λK A=>?_) dK.nil;go_simp;refine A.out _ _ (λ_=>hHeld) (λ_=>?_);refine EX k7 ?_ _;go_wp2_with fail;refine UA (by simp[results,results137,go_sem,e0,e1,e2,e3,e4,e5,e6,e7];try rfl) rfl ?_;exact⟨rfl,k3⟩
def Rt(bb m:Nat)(b:aU)(id:Int)(w:C_)(h:Bk w bb m b)(r:(Lit.int .i64 id).wf=G_)(f:∀s,s<2->∀x∈b.S s,x.o.id≠id):
  Sj prog 103 #[E (A_ ⟨bb,0,B_⟩),U G id] w λe W'=>e=Y (.tuple #[Ord.none_.agg,.iface 30 (U G 7)])/\bW w W':=by
 have H:=ah h;have k:=ah f;clear h f;go_enter func103,ntmps103;go_wp2_with fail;refine(aB3 bb m b id _ (H.below (aM _ _) au) r k).mono ?_;rintro e w1 ⟨rfl,d⟩;unfold Ve d_;have a:=aL (RU w _) d au;have g:Hid (bW w w1):=aJ (aM _ _) d;clear d;go_upto_region 3 with fail;have c:=gu w1 (R #[U G 0,U G 0,U G 0,U G 0,U G 0] 155) (R #[U G 0,U G 0,U G 0] 208);have a:=aL a c au;generalize(w1.alloc (R #[U G 0,U G 0,U G 0,U G 0,U G 0] 155)).alloc (R #[U G 0,U G 0,U G 0] 208)=w2 at c a⊢;have i:=ah (aJ g c);have l:=aj (j:=0) a rfl;have a1:=aj (j:=1) a rfl;have n:=aj (j:=2) a rfl;have a3:=aj (j:=3) a rfl;have q:=aj (j:=4) a rfl;have u:=aI (j:=0) a;have v:=aI (j:=1) a;have y:=aI (j:=2) a;have z:=aI (j:=3) a;have A:=aI (j:=4) a;clear c a;go_wp2;refine UA (by simp[results,results103,go_sem,l,a1,n,a3,q];try rfl) rfl ?_;refine⟨rfl,?_⟩;have t:Sd w.heap.size w2 w2:=RS _ _;exact i.trans (((((t.setCell (p:=⟨w.heap.size,0,B_⟩) s7 _).setCell (p:=⟨w.heap.size,1,B_⟩) s7 _).setCell (p:=⟨w.heap.size,2,B_⟩) s7 _).setCell (p:=⟨w.heap.size,3,B_⟩) s7 _).setCell (p:=⟨w.heap.size,4,B_⟩) s7 _)
def bD4{v:D_}{n:Nat}{l:List D_}(h:w.ownsRow 0 206 2 v n l)(hn:0<n):∃g cap,v=J (A_ ⟨g,0,B_⟩) n cap:=by
 rcases h.2 with⟨rfl,rfl⟩|⟨g,cap,a,rfl,_⟩
 ·exact absurd hn (P_ 0)
 ·exact⟨g,cap,rfl⟩
def bA1{s:Nat}{S:Nat->List Ly}(h:Pb m rs fr S)(f:s<2)(hi:i<(S s).length)(d:dR (S s) i=x):pq (dR (S s) i) x.slot x.age=G_/\∀j,j<(S s).length->j≠i->pq (dR (S s) j) x.slot x.age=E_:=by
 have hn:((S s).map Ly.slot).Nodup:=by
  have:=h.nd;rw[TY]at this
  match s,f with
  |0,_=>exact(XA.1 this).1
  |1,_=>exact(XA.1 this).2.1
 refine⟨by rw[d];simp[pq],λj c a=>?_⟩
 have b:(dR (S s) j).slot≠x.slot:=λe=>a (by
  rw[<-d,yD hi,yD c]at e;have h1:j<((S s).map Ly.slot).length:=by simpa using c
  have h2:i<((S s).map Ly.slot).length:=by simpa using hi
  exact(List.getElem_inj (h₀:=h1) (h₁:=h2) hn).1 (by simpa using e))
 simp[pq,b]
def aX3{l:List Ly}(h:x∈l):∃i,i<l.length/\dR l i=x:=by
 obtain⟨i,hi,e⟩:=List.mem_iff_getElem.1 h;exact⟨i,hi,by rw[yD hi];exact e⟩
def aU7{s:Nat}{S:Nat->List Ly}(h:Pb m rs fr S)(f:s<2)(hi:i<(S s).length)(j:dR (S s) i=x):∀t,t<2->∀y,y∈dB S s (gG i (S s)) t↔(y∈S t/\y.o.id≠x.o.id):=by
 have hp:=aF7 hi;rw[j]at hp;have c:(S 0++S 1).Perm (x::(dB S s (gG i (S s)) 0++dB S s (gG i (S s)) 1)):=(Ag S f).trans ((hp.append_right _).trans ((Em S _ f).symm.cons _));have d:=(c.map λx=>x.o.id).nodup_iff.1 h.ids;simp only[RY,VP,Ti,not_exists,not_and]at d;intro t g y
 have b:y∈dB S s (gG i (S s)) t->y.o.id≠x.o.id:=λa e=>d.1 y (by
  match t,g with
  |0,_=>exact List.mem_append_left _ a
  |1,_=>exact List.mem_append_right _ a) e
 by_cases e:t=s
 ·subst e;rw[yU]at b⊢;refine⟨λa=>⟨hp.mem_iff.2 (SI _ a),b a⟩,λ⟨a,hne⟩=>?_⟩;rcases SB.1 (hp.mem_iff.1 a)with e|e
  ·exact absurd (by rw[e]) hne
  ·exact e
 ·rw[yT _ e]at b⊢;exact⟨λa=>⟨a,b a⟩,λa=>a.1⟩
def QV(b:aU)(s i:Nat)(x:Ly)(vf' v':D_):aU:=
 ⟨b.ab,b.mb,b.n,b.vs,vf',mM b.v0 v' s 0,mM b.v1 v' s 1,b.rs.set x.slot (B_,x.age+1),b.fr++[x.slot],dB b.S s (gG i (b.S s))⟩
variable {b:aU}
def aNv{w3 p y C:C_}{s g cap:Nat}{c:D_}(h:Bk w bb m b)(H:m+1<=900000)(r:s<2)(I:x∈b.S s)(hi:i<(b.S s).length)(u:dR (b.S s) i=x)(E:Out (b.foot bb) w w3)(B:w.heap.size<w3.heap.size)(f:(eH b.v0 b.v1 s).ownBlock=A_ g)(A:Out (λj=>j=bb\/(eH b.v0 b.v1 s).ownBlock=A_ j) w3 p)(D:jc p bb b.ab b.mb b.n b.vs b.vf (mM b.v0 (J (A_ ⟨g,0,B_⟩) (gG i (b.S s)).length cap) s 0) (mM b.v1 (J (A_ ⟨g,0,B_⟩) (gG i (b.S s)).length cap) s 1) b.rs b.fr (dB b.S s (gG i (b.S s))) (dB b.S s (gG i (b.S s))))(G:bJ y b.ab 100 b.vs c (b.rs.set x.slot (B_,x.age+1)) (b.fr++[x.slot]))(l:Out (bF b.ab b.vs b.vf) p y)(o:aK p (bF b.ab b.vs b.vf) (bF b.ab b.vs c))(z:Out (λj=>j=w.heap.size) y C):
  Goes w C bb (m+1) b (QV b s i x c (J (A_ ⟨g,0,B_⟩) (gG i (b.S s)).length cap)):=by
 have hp:=aF7 hi;rw[u]at hp;have v:w.heap.size<p.heap.size:=Sn B A.size
 have K:=aHl (w:=w) (v0:=b.v0) (v1:=b.v1) (v':=J (A_ ⟨g,0,B_⟩) (gG i (b.S s)).length cap) r (λj a=>by
   have e:g=j:=by simpa[Uf]using a
   subst e;exact RP f)
 have d:∀j,(mM b.v0 (J (A_ ⟨g,0,B_⟩) (gG i (b.S s)).length cap) s 0).ownBlock=A_ j\/(mM b.v1 (J (A_ ⟨g,0,B_⟩) (gG i (b.S s)).length cap) s 1).ownBlock=A_ j->j<w3.heap.size/\(b.v0.ownBlock=A_ j\/b.v1.ownBlock=A_ j):=λj a=>by
  have h0:b.v0.ownBlock=A_ j\/b.v1.ownBlock=A_ j:=by
   match s,r with
   |0,_=>
    rcases a with a|a
    ·have e:g=j:=by simpa[mM,Uf]using a
     exact RP (e▸f)
    ·exact RN a
   |1,_=>
    rcases a with a|a
    ·exact RP a
    ·have e:g=j:=by simpa[mM,Uf]using a
     exact RN (e▸f)
  exact⟨Nat.lt_trans (h.lt (RN (RN (RN h0)))) B,h0⟩
 have F:aK w (b.foot bb) ((QV b s i x c (J (A_ ⟨g,0,B_⟩) (gG i (b.S s)).length cap)).foot bb):=by
  rintro j (a|a|a|a)
  ·exact RP (RP a)
  ·exact(o j a).imp (λh=>RN (RP h)) (λh=>Nat.le_of_lt (Sn v h))
  ·exact RP (RN (RN (RP a)))
  ·exact RP (RN (RN (RN (d j a).2)))
 refine⟨⟨((D.Ia l G).out z (λk hk e=>?_)).done,h.ok.gone r I hp,Nat.le_succ_of_le h.small,H⟩,?_,F⟩
 ·have q:k=w.heap.size:=e;have t:∀j,b.foot bb j->j≠w.heap.size:=λj a e=>by have:=h.lt a;omega
  rcases hk with hk|hk|hk|hk
  ·exact t k (RP hk) q
  ·rcases o k hk with h1|h1
   ·exact t k (RN (RP h1)) q
   ·omega
  ·exact t k (RN (RN (RP hk))) q
  ·exact t k (RN (RN (RN (d k hk).2))) q
 ·have o1:=E.trans (A.mono (S':=b.foot bb) (λj a=>by
   rcases a with a|a
   ·exact RP a
   ·exact RN (RN (RN (Pv r a))))) (Tc _ _)
  have o2:=o1.trans (l.mono (S':=b.foot bb) (λj a=>RN (RP a))) (Tc _ _);exact o2.trans z (λj a=>RN (by rw[show j=w.heap.size from a];exact au))
def KE(bb m s:Nat)(b:aU)(x:Ly)(w:C_)(h:Bk w bb m b)(hm:m+1<=900000)(k:s<2)(hx:x∈b.S s):
  Sj prog 103 #[E (A_ ⟨bb,0,B_⟩),U G x.o.id] w λe W'=>e=Y (.tuple #[x.o.agg,.nilIface])/\∃b':aU,(∃i,i<(b.S s).length/\dR (b.S s) i=x/\b'.S=dB b.S s (gG i (b.S s)))/\Goes w W' bb (m+1) b b':=by
 have H:=ah h;clear h;unfold Ve;go_enter func103,ntmps103;go_wp2_with fail;refine(Gl bb m s b x _ (H.below (aM _ _) au) k hx).mono ?_;rintro e w1 ⟨rfl,N⟩;unfold Ve BX;have B:=aL (RU w _) N au;have C:Hid (bW w w1):=aJ (aM _ _) N;clear N;go_upto_region 4 with fail;have y:=gu w1 (R #[U G x.o.id,U G x.o.side,U G x.o.kind,U G x.o.price,U G x.o.ak] 155) (R #[U G x.slot,U G x.age,U G s] 208);have B:=aL B y au;have hp:=pR w1 (R #[U G x.o.id,U G x.o.side,U G x.o.kind,U G x.o.price,U G x.o.ak] 155) (R #[U G x.slot,U G x.age,U G s] 208);have b2:w.heap.size<w1.heap.size+1:=Nat.lt_succ_of_le C.size;generalize(w1.alloc (R #[U G x.o.id,U G x.o.side,U G x.o.kind,U G x.o.price,U G x.o.ak] 155)).alloc (R #[U G x.slot,U G x.age,U G s] 208)=w2 at y B hp⊢;generalize w1.heap.size+1=pb at hp b2⊢;have P:=ah (aJ C y);clear y C;have l:Hid (Bk w2 bb m b):=H.below P au;obtain⟨i,p,z⟩:=aX3 hx;have m1:aF w2 bb 1 (.map (A_ b.mb)):=aj (j:=1) l.at_.box rfl;obtain⟨w3,a1,W,q⟩:=l.at_.map.del (H.ok.ok s k x hx).2.1 (aU7 H.ok k p z) 0;have L:=l.at_.mid.aFc q W;have B:=aH B q (l.at_.map.ne B);have hp:=aH hp q (l.at_.map.ne hp);have a3:Hid (Out (b.foot bb) w w3):=(Sz P au).trans (q.mono (S':=b.foot bb) (λj v=>RN (RN (RP v)))) (Tc _ _);go_wp2_with fail;clear a1 m1 W q;obtain⟨d,_,_⟩:=L.rowIs k;obtain⟨g,cap,hv⟩:=bD4 d o7;have f:=ah L;have F:=ah B;have n:=ah hp;have A:Hid (w3.ownsRow 0 206 2 (J (A_ ⟨g,0,B_⟩) (b.S s).length cap) (b.S s).length (hV (b.S s))):=by rw[hv]at d;exact d
 have HV:=ah hv
 have b5:g<w.heap.size:=by
  have h1:(eH b.v0 b.v1 s).ownBlock=A_ g:=by rw[hv];rfl
  exact((H.at_.mid.rowIs k).1.lt g h1).2
 have ng:∀{j:Nat} {vs:Array D_} {t:RZ},eB w3 j vs t->t≠206->¬(j=g):=fun {j vs t} v ht e=>bM A v ht (by rw[e];rfl)
 have I:Hid (∀w',Out (λj=>j=g) w3 w'->(aF w' pb 1 (U G x.age)/\aF w' pb 2 (U G s)/\aF w' bb (2+s) (J (A_ ⟨g,0,B_⟩) (b.S s).length cap)/\Out (λj=>j=g) w3 w')):=λw' ho=>by
  have g1:=aH n ho (ng n d7);have g2:=aH f.box ho (ng f.box d7);exact⟨aj (j:=1) g1 rfl,aj (j:=2) g1 rfl,by rw[<-HV.out];exact(Da g2 k).1,ho⟩
 clear L B hp d hv
 have b1:(b.S s).length<=1000:=by
  have h1:=(Ah b.S [] k).2;have h2:=H.out.ok.most;omega
 have Q:=ah (bA1 H.ok k p z);have q1:(0:Int)<=(s:Int):=o7;have q2:(s:Int)<2:=o7;refine JJ (λw'=>aF w' pb 1 (U G x.age)/\aF w' pb 2 (U G s)/\aF w' bb (2+s) (J (A_ ⟨g,0,B_⟩) (b.S s).length cap)/\Out (λj=>j=g) w3 w') (λi=>i == 15) k7 (I _ (fI (Tz _ _))) (λhHeld=>?_);refine dP 0 a7 ?_;refine dP 1 a7 ?_;refine dP 2 a7 ?_;refine dP 3 a7 ?_;refine dP 4 a7 ?_;refine dP 5 a7 ?_;refine dP 6 a7 ?_;refine dP 7 a7 ?_;refine dP 8 a7 ?_;refine dP 9 a7 ?_;refine dP 10 a7 ?_;refine dP 12 a7 ?_;refine dP 13 a7 ?_;refine mO (rs:=[11]) k7 s7 ?_;refine dK.cons rfl (λK M=>?_) dK.nil;go_simp;refine(aPm pb x.slot i g cap x.age s (b.S s) _ (jw A (RS _ _).drew au) b1 p Q.out.1 Q.out.2 n).mono ?_;rintro e w6 ⟨rfl,Z,c⟩;dsimp only;have c:Out (λj=>j=g) w3 w6:=iU (fI (Tz _ _)) c;have b6:=Da (aH f.box c (ng f.box d7)) k;have e6:=b6.1;have f6:=b6.2;refine M.out _ _ (λ_=>I _ c) (λhHeld=>?_);replace hHeld:=hHeld rfl;clear M K b6;refine mO (rs:=[14]) k7 s7 ?_;refine dK.cons rfl (λK M=>?_) dK.nil;go_simp;refine M.out _ _ (λ_=>I _ c) (λhHeld=>?_);replace hHeld:=hHeld rfl;clear M K;refine mO (rs:=[15]) k7 s7 ?_;refine dK.cons rfl (λK M=>?_) dK.nil;go_simp;refine M.out _ _ (λh=>by cases h) (λ_=>?_);refine EX k7 ?_ _;go_wp2_with fail;have u:(eH b.v0 b.v1 s).ownBlock=A_ g:=by rw[HV.out];rfl
 obtain⟨hG,V⟩:=f.newRow k Z (c.mono (λj v=>by rw[show j=g from v];exact u)) (RP u);generalize w6.setCell ⟨bb,2+s,B_⟩ (J (A_ ⟨g,0,B_⟩) (gG i (b.S s)).length cap)=w7 at hG V⊢;have hz:=SK F
 have n7:∀{j:Nat} {vs:Array D_} {t:RZ},eB w3 j vs t->t≠199->t≠206->¬(j=bb\/(eH b.v0 b.v1 s).ownBlock=A_ j):=fun {j vs t} v ht ht2 e=>by
  rcases e with e|e
  ·exact kY v f.box ht e
  ·rw[u]at e;exact ng v ht2 (by injection e with e;exact e.symm)
 have a0:=aH F V (n7 F d7 d7);have X:=aH n V (n7 n d7 d7);have D:=ah hG;have HT:=ah V;have a6:=ah u;have a5:=ah a0;have a4:=ah X;have na:∀j,bF b.ab b.vs b.vf j->j<w.heap.size:=λj v=>H.lt (RN (RP v))
 have T:Hid (∀w',Out (λj=>bF b.ab b.vs b.vf j\/j=w.heap.size) w7 w'->(aF w' bb 0 (E (A_ ⟨b.ab,0,B_⟩))/\aF w' pb 0 (U G x.slot)/\aF w' pb 1 (U G x.age)/\Out (λj=>bF b.ab b.vs b.vf j\/j=w.heap.size) w7 w')):=λw' ho=>by
  have lb:bb<w.heap.size:=H.lt (RP rfl)
  have g1:=aH D.box ho (λe=>by
   rcases e with e|e
   ·exact H.at_.Nc e
   ·omega)
  have g2:=aH a4 ho (λe=>by
   rcases e with e|e
   ·have:=na _ e;omega
   ·omega)
  exact⟨aj (j:=0) g1 rfl,aj (j:=0) g2 rfl,aj (j:=1) g2 rfl,ho⟩
 have O:=ah (H.ok.there s k x hx);have a9:b.rs.length<=1000000:=by have:=H.ok.so.small;have:=H.steps;omega
 have b0:b.fr.length<=b.rs.length:=by have:=H.ok.so.cnt;omega
 have a2:Hid (0<=x.age/\x.age<=1000000):=by
  have h1:=H.ok.so.vR x.slot;rw[O.out]at h1;have h2:=H.out.steps;have h3:=h1;show _/\_;omega
 have b7:=T w7 (Tz _ _);clear a0 X hG V u Z c hHeld e6 f6 q1 q2
 go_region_held3 (λw'=>aF w' bb 0 (E (A_ ⟨b.ab,0,B_⟩))/\aF w' pb 0 (U G x.slot)/\aF w' pb 1 (U G x.age)/\Out (λj=>bF b.ab b.vs b.vf j\/j=w.heap.size) w7 w')
  ((refine T _ ?_;(repeat' first|assumption|exact fI (Tz _ _)|refine nW ?_ (RN rfl))))
  (first|(go_at_call 140;refine(bAm b.ab 100 b.vs b.vf b.rs b.fr x.slot x.o x.age _ (D.ar.below (RS _ _).drew au) O a9 b0 a2).mono ?_;rintro e w8 ⟨rfl,b8,a8,r,b3⟩;have r:Out (bF b.ab b.vs b.vf) w7 w8:=iU (fI (Tz _ _)) r;have b4:Out (λj=>bF b.ab b.vs b.vf j\/j=w.heap.size) w7 w8:=r.mono (λ_ h=>RP h);have a:=aH a5 r (λe=>P_ _ (na _ e));have y0:=aI (j:=0) a;have y1:=aI (j:=1) a;have y2:=aI (j:=2) a;have y3:=aI (j:=3) a;have y4:=aI (j:=4) a;have x0:=aj (j:=0) a rfl;have x1:=aj (j:=1) a rfl;have x2:=aj (j:=2) a rfl;have x3:=aj (j:=3) a rfl;have x4:=aj (j:=4) a rfl;unfold Ve;clear a))
 go_wp2;refine UA (by simp[results,results103,go_sem,x0,x1,x2,x3,x4];try rfl) rfl ?_;refine⟨rfl,_,⟨i,p,z,rfl⟩,aNv H hm k hx p z a3 hz a6 HT D a8 r b3 ?_⟩;exact nW (nW (nW (nW (nW (Tz _ _) rfl) rfl) rfl) rfl) rfl
end
section
attribute [local go_sem] Oper.semAt_some
def zx(l:List Ord):D_:=match l with
 |[]=>.tuple #[Ord.none_.agg,.iface 30 (U G 8)]
 |o::_=>.tuple #[o.agg,.nilIface]
def aX2{o:Obj}(h:w.heap[k]? = A_ o):k<w.heap.size:=(Array.getElem?_eq_some_iff.1 h).1
def QM{D:Nat}{x:Ord}{e:D_}{c:Array D_}(h2:iM W w.heap.size x)(h3:W.heap[w.heap.size+1]? = A_ (R #[e] 24 (0,0)))(f:W.heap[D]? = A_ (.deferred (A_ [])))(d:Sd w.heap.size w W)(u:w.heap.size+2<=D)(s:c.getD 4 undef=E (A_ ⟨w.heap.size,0,B_⟩):=by rfl)(t:c.getD 5 undef=E (A_ ⟨w.heap.size+1,0,B_⟩):=by rfl):
  bodyPostM Fence.wide 4 prog f232 (λp k=>p=Y (.tuple #[x.agg,e])/\Sd w.heap.size w k) Exit.ret { tmps:=c,defers:=[{ target:=Target.collected D,args:=#[] }] } W:=by
 have q:=belowK_b (n₀:=w.heap.size) (w:=w) au W D _ (.deferred B_) o7 f rfl rfl;have a:=belowK_b (n₀:=w.heap.size+2) (w:=(w.alloc (.deferred B_)).alloc (.deferred B_)) s7 W D _ (.deferred B_) (by simp;omega) f rfl rfl;have b:iM (W.putObj D (.deferred B_)) w.heap.size x:=(a.block w.heap.size o7).trans h2;have r:(W.putObj D (.deferred B_)).heap[w.heap.size+1]? = A_ (R #[e] 24 (0,0)):=(a.block (w.heap.size+1) o7).trans h3;have g:c[4]?.getD undef=E (A_ ⟨w.heap.size,0,B_⟩):=by simpa using s
 have i:c[5]?.getD undef=E (A_ ⟨w.heap.size+1,0,B_⟩):=by simpa using t
 have l:=aj (j:=0) b rfl;have a1:=aj (j:=1) b rfl;have m:=aj (j:=2) b rfl;have a3:=aj (j:=3) b rfl;have n:=aj (j:=4) b rfl;have o:=aj (j:=0) r rfl;refine⟨by simp,.inl ⟨_,_,rfl,run_takeDeferred f,?_⟩⟩;refine⟨.tuple #[x.agg,e],?_,rfl,d.trans q⟩;unfold Ve;simp[results,results232,go_sem,g,i,l,a1,m,a3,n,o];try rfl
def aMr(bb ab mb nn s:Nat)(vs vf v0 v1:D_)(rs:List aT)(fr:List Nat)(S:Nat->List Ly)(g:s<2)(L:(S s).length<=1000)(Z:∀x∈S s,aW rs x.slot=(A_ x.o,x.age))(w:C_)(hB:dL w bb ab mb nn vs vf v0 v1 rs fr S)(side:Int)(z:side=(s:Int)+1):
  Sj prog 232 #[.pointer (A_ ⟨bb,0,B_⟩),.int .i64 side] w λe W'=>e=.returned (zx ((S s).map Ly.o))/\Sd w.heap.size w W':=by
 have N:(side == 1 || side == 2)=G_:=by
  subst z
  match s,g with
  |0,_=>rfl
  |1,_=>rfl
 have HS:=ah N;have a1:IntKind.i64.wrap (side - 1)=(s:Int):=by rw[z,show(s:Int)+1 - 1=s by omega];exact IntWalk.i64_in _ o7
 clear N z;refine(UY (n:=4)).1 ?_;refine callsIn_of_wp_marks func232 rfl trivial ?_ rfl;simp only[ntmps232,List.size_toArray,SC,Ui,Ws,Nat.reduceSub,Array.replicate_succ,Array.replicate_zero,List.push_toArray,List.append_toArray,Tn,List.cons_append]
 gi_wp2_with fail
 refine⟨trivial,(UY.2 (GX side _)).mono ?_⟩;rintro e w' ⟨rfl,hw⟩;replace hw:=hw.symm;subst hw;rw[HS.out]
 gi_wp2_with fail
 refine⟨trivial,(UY.2 (MK bb _ _)).mono ?_⟩;rintro e w' ⟨rfl,rfl⟩
 gi_wp2_with fail
 have m:=gu w (.cells #[.int .i64 0,.int .i64 0,.int .i64 0,.int .i64 0,.int .i64 0] 155) (.cells #[.nilIface] 24);have P:=rz w (.cells #[.int .i64 0,.int .i64 0,.int .i64 0,.int .i64 0,.int .i64 0] 155) (.cells #[.nilIface] 24);have O:=pR w (.cells #[.int .i64 0,.int .i64 0,.int .i64 0,.int .i64 0,.int .i64 0] 155) (.cells #[.nilIface] 24);obtain⟨w2,C⟩:∃w2,(w.alloc (.cells #[.int .i64 0,.int .i64 0,.int .i64 0,.int .i64 0,.int .i64 0] 155)).alloc (.cells #[.nilIface] 24)=w2:=⟨_,rfl⟩;have a0:w2.heap.size=w.heap.size+1+1:=by rw[<-C];simp
 rw[C]at m P O⊢;clear C;have d:=gu w2 (.cells #[.pointer (A_ ⟨bb,0,B_⟩)] 147) (.cells #[.int .i64 s] 3);have R:=rz w2 (.cells #[.pointer (A_ ⟨bb,0,B_⟩)] 147) (.cells #[.int .i64 s] 3);have T:=pR w2 (.cells #[.pointer (A_ ⟨bb,0,B_⟩)] 147) (.cells #[.int .i64 s] 3);obtain⟨W0,t⟩:∃W0,(w2.alloc (.cells #[.pointer (A_ ⟨bb,0,B_⟩)] 147)).alloc (.cells #[.int .i64 s] 3)=W0:=⟨_,rfl⟩;have a3:W0.heap.size=w.heap.size+4:=by rw[<-t];simp;omega
 rw[t]at d R T⊢;clear t;have P:=aL P d au;have O:=aL O d au;have J:=aJ m d;rw[a0]at R T;have HK:∀k,vw bb ab mb vs vf v0 v1 k->k<w.heap.size:=λk hk=>hB.lt hk
 clear m d
 refine wpIn_rangeFunc_ownH (F:=Fence.wide) (n:=4) rfl d7 (gf:=205) (lb:=#[.pointer (A_ ⟨w.heap.size+1+1,0,B_⟩),.pointer (A_ ⟨w.heap.size+1+1+1,0,B_⟩)]) rfl trivial (enters_of func205 k7 rfl)
  (MJ 3 d7 (w.heap.size+1+1) (w.heap.size+1+1+1) w.heap.size bb ab mb nn s vs vf v0 v1 rs fr S g L Z HK W0 o7 (hB.below J au) R T) Mt (Ms o7) (RS _ _) (λ_=>rfl)
  (λb W=>(b=[]/\iM W w.heap.size d_/\W.heap[w.heap.size+1]? = A_ (.cells #[.nilIface] 24 (0,0)))/\Sd w.heap.size w W)
  (λc b W=>(c=.ret/\∃x,b=[x]/\iM W w.heap.size x/\W.heap[w.heap.size+1]? = A_ (.cells #[.nilIface] 24 (0,0)))/\Sd w.heap.size w W)
  (OwnFrom.and (Own.from (λs A B row g y f=>⟨g.1,uP g.2.1 y f,uP g.2.2 y f⟩) _) (ownFrom_below au o7))
  (λc=>OwnFrom.and (Own.from (λs A B row g y f=>by obtain⟨g0,x,g1,i,I⟩:=g;exact⟨g0,x,g1,uP i y f,uP I y f⟩) _) (ownFrom_below au o7))
  ⟨⟨rfl,P,O⟩,J⟩
  (λx a' W=>∃H,iM W H x/\a'={ tmps:=#[.pointer (A_ ⟨bb,0,B_⟩),.int .i64 side,undef,undef,.pointer (A_ ⟨w.heap.size,0,B_⟩),.pointer (A_ ⟨w.heap.size+1,0,B_⟩),.pointer (A_ ⟨H,0,B_⟩),.int .i64 side,.bool G_,.bool E_,undef,undef,.pointer (A_ ⟨bb,0,B_⟩),.int .i64 side,.int .i64 s,.func (.func 205) #[] #[.pointer (A_ ⟨w.heap.size+1+1,0,B_⟩),.pointer (A_ ⟨w.heap.size+1+1+1,0,B_⟩)],Ve x,undef,undef,undef],defers:=[] })
  (λx a' _ X Y row g y f=>by obtain⟨H,h2,h3⟩:=g;exact⟨H,uP h2 y (λr e=>(f r e).2),h3⟩)
  ?assign ?body ?done ?stop
 case assign=>
  rintro l b x W K ⟨⟨h1,h2,h3⟩,a⟩ q;have lS:=a.size;unfold Ve at q⊢
  gi_wp2
  refine q _ _ ((KeepsOthers.alloc _ _).from _) (kG.of_below (aM _ _) lS) ⟨⟨h1,aL h2 (aM _ _) au,aL h3 (aM _ _) au⟩,a.alloc a.size _⟩ ⟨W.heap.size,RU _ _,rfl⟩
 case body=>
  rintro l b x a' W hl ⟨r,f⟩ ⟨⟨rfl,h2,h3⟩,a⟩ ⟨H,E,rfl⟩ a2;have c0:=aj (j:=0) E rfl;have c1:=aj (j:=1) E rfl;have c2:=aj (j:=2) E rfl;have c3:=aj (j:=3) E rfl;have c4:=aj (j:=4) E rfl;have d0:=aI (j:=0) h2;have d1:=aI (j:=1) h2;have d2:=aI (j:=2) h2;have d3:=aI (j:=3) h2;have d4:=aI (j:=4) h2;have e0:=aI (j:=0) h3;have E0:=aj (j:=0) h3 rfl;have D0:=aj (j:=0) h2 rfl;have D1:=aj (j:=1) h2 rfl;have D2:=aj (j:=2) h2 rfl;have D3:=aj (j:=3) h2 rfl;have D4:=aj (j:=4) h2 rfl;have H2:Hid _:=h2;have H3:Hid _:=h3;have Q:=ah a;clear h2 h3 a E f;unfold Ve
  gi_wp2_with fail
  have G:Out (λj=>j=w.heap.size) W _:=nW (p:=⟨w.heap.size,4,B_⟩) (u:=.int .i64 x.ak) (nW (p:=⟨w.heap.size,3,B_⟩) (u:=.int .i64 x.price) (nW (p:=⟨w.heap.size,2,B_⟩) (u:=.int .i64 x.kind) (nW (p:=⟨w.heap.size,1,B_⟩) (u:=.int .i64 x.side) (nW (p:=⟨w.heap.size,0,B_⟩) (u:=.int .i64 x.id) (Tz _ _) rfl) rfl) rfl) rfl) rfl;have i:=bg (j:=4) (.int .i64 x.ak) (bg (j:=3) (.int .i64 x.price) (bg (j:=2) (.int .i64 x.kind) (bg (j:=1) (.int .i64 x.side) (bg (j:=0) (.int .i64 x.id) H2.out))));have I:=bg (j:=0) .nilIface (aH H3.out G s7);refine⟨((((((Xc _ _ _).trans (Xc _ _ _)).trans (Xc _ _ _)).trans (Xc _ _ _)).trans (Xc _ _ _)).trans (Xc _ _ _)).from _,⟨rfl,x,rfl,aH i (bL _ ⟨w.heap.size+1,0,B_⟩ _) s7,I⟩,?_⟩;exact Q.out.trans (((((((RS _ W).setCell (p:=⟨w.heap.size,0,B_⟩) s7 _).setCell (p:=⟨w.heap.size,1,B_⟩) s7 _).setCell (p:=⟨w.heap.size,2,B_⟩) s7 _).setCell (p:=⟨w.heap.size,3,B_⟩) s7 _).setCell (p:=⟨w.heap.size,4,B_⟩) s7 _).setCell (p:=⟨w.heap.size+1,0,B_⟩) s7 _)
 case done=>
  rintro D ys W hD rfl ⟨⟨h1,h2,h3⟩,a⟩ q;have d0:=aI (j:=0) h2;have d1:=aI (j:=1) h2;have d2:=aI (j:=2) h2;have d3:=aI (j:=3) h2;have d4:=aI (j:=4) h2;have e0:=aI (j:=0) h3;have E0:=aj (j:=0) h3 rfl;have D0:=aj (j:=0) h2 rfl;have D1:=aj (j:=1) h2 rfl;have D2:=aj (j:=2) h2 rfl;have D3:=aj (j:=3) h2 rfl;have D4:=aj (j:=4) h2 rfl
  gi_wp2
  have G:Out (λj=>j=w.heap.size) W _:=nW (p:=⟨w.heap.size,4,B_⟩) (u:=.int .i64 0) (nW (p:=⟨w.heap.size,3,B_⟩) (u:=.int .i64 0) (nW (p:=⟨w.heap.size,2,B_⟩) (u:=.int .i64 0) (nW (p:=⟨w.heap.size,1,B_⟩) (u:=.int .i64 0) (nW (p:=⟨w.heap.size,0,B_⟩) (u:=.int .i64 0) (Tz _ _) rfl) rfl) rfl) rfl) rfl;have i:=bg (j:=4) (.int .i64 0) (bg (j:=3) (.int .i64 0) (bg (j:=2) (.int .i64 0) (bg (j:=1) (.int .i64 0) (bg (j:=0) (.int .i64 0) h2))));have i:=aH i (bL _ ⟨w.heap.size+1,0,B_⟩ (.iface 30 (.int .i64 8))) s7;have I:=bg (j:=0) (.iface 30 (.int .i64 8)) (aH h3 G s7);have V:=a.trans (((((((RS _ W).setCell (p:=⟨w.heap.size,0,B_⟩) s7 (.int .i64 0)).setCell (p:=⟨w.heap.size,1,B_⟩) s7 (.int .i64 0)).setCell (p:=⟨w.heap.size,2,B_⟩) s7 (.int .i64 0)).setCell (p:=⟨w.heap.size,3,B_⟩) s7 (.int .i64 0)).setCell (p:=⟨w.heap.size,4,B_⟩) s7 (.int .i64 0)).setCell (p:=⟨w.heap.size+1,0,B_⟩) s7 (.iface 30 (.int .i64 8)));have lD:=aX2 q;have U:=((bL _ ⟨w.heap.size+1,0,B_⟩ (.iface 30 (.int .i64 8))).block D (Sn lD G.size) (by show¬(D=w.heap.size+1);omega)).trans ((G.block D lD (by show¬(D=w.heap.size);omega)).trans q);clear G;have v:zx ((S s).map Ly.o)=.tuple #[Ord.none_.agg,.iface 30 (.int .i64 8)]:=by rw[h1];rfl
  rw[v];exact QM i I U V o7
 case stop=>
  rintro D c b W hD M ⟨⟨rfl,x,rfl,h2,h3⟩,a⟩ q
  have v:zx ((S s).map Ly.o)=.tuple #[x.agg,.nilIface]:=by
   obtain⟨r,f⟩:=M;rw[<-f];rfl
  gi_wp2
  rw[v];exact QM h2 h3 q a o7
def aGk(bb m s:Nat)(b:aU)(w:C_)(h:Bk w bb m b)(a:s<2)(side:Int)(c:side=(s:Int)+1):
  Sj prog 232 #[E (A_ ⟨bb,0,B_⟩),U G side] w λe W'=>e=Y (zx ((b.S s).map Ly.o))/\Sd w.heap.size w W':=
 aMr bb b.ab b.mb b.n s b.vs b.vf b.v0 b.v1 b.rs b.fr b.S a (by have h1:=(Ah b.S [] a).2;have h2:=h.ok.most;omega) (h.ok.there s a) w h.at_ side c
def Iz(bb m s:Nat)(b:aU)(w:C_)(h:Bk w bb m b)(a:s<2)(side:Int)(c:side=(s:Int)+1):
  Sj prog 117 #[E (A_ ⟨bb,0,B_⟩),U G side] w
   λe W'=>∃v,e=Y (.tuple #[v,.nilIface])/\W'.ownsRow w.heap.size 155 5 v (b.S s).length (oV ((b.S s).map Ly.o))/\Sd w.heap.size w W':=
 bBw bb b.ab b.mb b.n s b.vs b.vf b.v0 b.v1 b.rs b.fr b.S a (by have h1:=(Ah b.S [] a).2;have h2:=h.ok.most;omega) (h.ok.there s a) w h.at_ side c
end
def sU(w W:C_)(bb:Nat)(b b':aU):Prop:=Out (b.foot bb) w W/\aK w (b.foot bb) (b'.foot bb)
def sU.refl(w:C_)(bb:Nat)(b:aU):sU w w bb b b:=⟨Tz _ _,Tc _ _⟩
variable {b:aU}
def sU.goes{c b2:aU}(h:sU w W bb b c)(d:Goes W a bb m c b2):sU w a bb b b2:=
 ⟨h.1.trans d.2.1 h.2,λk hk=>(d.2.2 k hk).elim (h.2 k) (λe=>RN (RV h.1.size e))⟩
def sU.below{b1:aU}(h:sU w W bb b b1)(c:Sd W.heap.size W a):sU w a bb b b1:=
 ⟨h.1.trans (Sz (S:=b1.foot bb) c au) h.2,h.2⟩
def bAl(ab:Nat)(most:Int)(vs vf:D_)(rs:List aT)(fr:List Nat)(k:Nat)(o x:Ord)(a:Int)(w:C_)(h:bJ w ab most vs vf rs fr)(hk:aW rs k=(A_ o,a)):
  Sj prog 240 #[E (A_ ⟨ab,0,B_⟩),.agg #[U G k,U G a],x.agg] w
   λe w'=>e=Y .nilIface/\bJ w' ab most vs vf (rs.set k (A_ x,a)) fr/\Out (bF ab vs vf) w w':=by
 have l:=ah h;have d:=ah hk;clear h hk;unfold Ve;go_enter func240,ntmps240;go_wp2_with fail;refine(aFt ab most vs vf rs fr k o a _ (l.out.below (gu _ _ _) au) d.out).mono ?_;rintro e w1 ⟨f,g,cap,rfl,rfl⟩;have c:=(f.block (w.heap.size+1) s7).trans (pR w _ _);have D:=aj (j:=0) c rfl;have F:=aj (j:=1) c rfl;have H:=aj (j:=2) c rfl;have I:=aj (j:=3) c rfl;have K:=aj (j:=4) c rfl;have m:Hid (Sd w.heap.size w w1):=aJ (gu w _ _) f;have b:Hid (bJ w1 ab most (J (A_ ⟨g,0,B_⟩) rs.length cap) vf rs fr):=l.out.below m.out au;obtain⟨i,g',n,hv,d0,s,t,u,v,_,_⟩:=b.out.has d.out;simp only[TD,Option.some.injEq,Addr.mk.injEq,and_true,true_and]at hv;obtain⟨rfl,rfl⟩:=hv;have y:=b.out.slots.frozenAt (k*7);have z:=b.out.slots.frozenAt (k*7+1);have A:=b.out.slots.frozenAt (k*7+2);have B:=b.out.slots.frozenAt (k*7+3);have C:=b.out.slots.frozenAt (k*7+4);clear f c;go_wp2;go_ret;obtain⟨p,r⟩:=b.out.bE6 (x:=x) i (by rw[d.out];rfl);rw[d.out]at p;exact⟨rfl,p,(Sz m.out au).trans (r.mono (λj q=>RN (RP (by rw[q];rfl)))) (Tc _ _)⟩
def aU.cut(b:aU)(s:Nat)(x:Ly)(o':Ord):aU:={ b with rs:=b.rs.set x.slot (A_ o',x.age),S:=dB b.S s (jq x o' (b.S s)) }
def Goes.cut{w':C_}{s:Nat}{a:Ord}(h:Bk w bb m b)(r:m+1<=900000)(u:s<2)(n:x∈b.S s)(h1:a.id=x.o.id)(h2:a.side=x.o.side)(h3:1<=a.price/\a.price<=1000000/\1<=a.ak/\a.ak<=1000000)(q:bJ w' b.ab 100 b.vs b.vf (b.rs.set x.slot (A_ a,x.age)) b.fr)(ho:Out (bF b.ab b.vs b.vf) w w'):Goes w w' bb (m+1) b (b.cut s x a):=by
 have d:=dL.Ia h.at_ ho q
 have j:∀t,t<2->∀y,y∈dB b.S s (jq x a (b.S s)) t->∃z∈b.S t,z.o.id=y.o.id/\z.slot=y.slot/\z.age=y.age:=λt f y p=>by
  rcases BM p with⟨rfl,l⟩|⟨_,l⟩
  ·obtain⟨z,g,rfl⟩:=Ti.1 l;refine⟨z,g,?_⟩;split
   ·rename_i e;obtain rfl:=h.ok.BU f f g n e;exact⟨h1.symm,rfl,rfl⟩
   ·exact⟨rfl,rfl,rfl⟩
  ·exact⟨y,l,rfl,rfl,rfl⟩
 have i:∀t,t<2->∀z,z∈b.S t->∃y∈dB b.S s (jq x a (b.S s)) t,y.o.id=z.o.id:=λt f z g=>by
  by_cases e:t=s
  ·subst e;rw[yU];refine⟨_,Ti.2 ⟨z,g,rfl⟩,?_⟩;split
   ·rename_i e;obtain rfl:=h.ok.BU f f g n e;exact h1
   ·rfl
  ·exact⟨z,by rw[yT _ e];exact g,rfl⟩
 have c:∀t,hV (dB b.S s (jq x a (b.S s)) t)=hV (b.S t)/\(dB b.S s (jq x a (b.S s)) t).length=(b.S t).length:=λt=>by
  by_cases e:t=s
  ·subst e;rw[yU];exact⟨aO6 _ _ _,aAo _ _ _⟩
  ·rw[yT _ e];exact⟨rfl,rfl⟩
 refine⟨⟨⟨d.box,d.ar,d.map.like (λt f y p=>j t f y p) (λt f z g=>i t f z g),?_,?_,d.apart⟩,h.ok.cut u n h1 h2 h3,RV h.small (Nat.le_succ _),r⟩,ho.mono (λk hk=>RN (RP hk)),Tc _ _⟩
 ·show World.ownsRow _ _ _ _ _ (dB b.S s (jq x a (b.S s)) 0).length (hV (dB b.S s (jq x a (b.S s)) 0));rw[(c 0).1,(c 0).2];exact d.row0
 ·show World.ownsRow _ _ _ _ _ (dB b.S s (jq x a (b.S s)) 1).length (hV (dB b.S s (jq x a (b.S s)) 1));rw[(c 1).1,(c 1).2];exact d.kr
def aO9(bb m:Nat)(b:aU)(id q:Int)(w:C_)(h:Bk w bb m b)(g:(Lit.int .i64 id).wf=G_)(c:∀s,s<2->∀x∈b.S s,x.o.id≠id):
  Sj prog 224 #[E (A_ ⟨bb,0,B_⟩),U G id,U G q] w λe W'=>e=Y (.iface 30 (U G 7))/\Sd w.heap.size w W':=by
 have H:=ah h;have f:=ah c;clear h c;go_enter func224,ntmps224;go_wp2_with fail;refine(aB3 bb m b id _ H.out g f.out).mono ?_;rintro e w1 ⟨rfl,a⟩;unfold Ve d_;have d:=ah a;clear a;go_wp2_with fail;go_ret;exact⟨rfl,aJ d.out (gu _ _ _)⟩
def aPb(bb m s:Nat)(b:aU)(x:Ly)(q:Int)(w:C_)(h:Bk w bb m b)(i:s<2)(f:x∈b.S s)(k:q<1\/x.o.ak<q):
  Sj prog 224 #[E (A_ ⟨bb,0,B_⟩),U G x.o.id,U G q] w λe W'=>e=Y (.iface 30 (U G 2))/\Sd w.heap.size w W':=by
 have H:=ah h;have g:=ah f;clear h f;go_enter func224,ntmps224;go_wp2_with fail;refine(Gl bb m s b x _ H.out i g.out).mono ?_;rintro e w1 ⟨rfl,c⟩;unfold Ve BX;have a:=ah c;clear c;have o4:((w1.alloc (R #[U G x.o.id,U G x.o.side,U G x.o.kind,U G x.o.price,U G x.o.ak] 155)).alloc (R #[U G x.slot,U G x.age,U G s] 208)).cell? ⟨w1.heap.size,4,B_⟩=A_ (U G x.o.ak):=aj (j:=4) (rz w1 _ _) rfl
 by_cases d:q<1
 ·have k1:=RI d;go_wp2_with fail;go_ret;exact⟨rfl,aJ a.out (gu _ _ _)⟩
 ·have k1:=RH d;have k2:decide (q>x.o.ak)=G_:=RI o7;go_wp2_with fail;go_ret;exact⟨rfl,aJ a.out (gu _ _ _)⟩
def aO8(bb m s:Nat)(b:aU)(x:Ly)(w:C_)(h:Bk w bb m b)(u:m+1<=900000)(q:s<2)(r:x∈b.S s)(v:¬x.o.ak<1):
  Sj prog 224 #[E (A_ ⟨bb,0,B_⟩),U G x.o.id,U G x.o.ak] w λe t=>e=Y .nilIface/\∃b':aU,(∃i,i<(b.S s).length/\dR (b.S s) i=x/\b'.S=dB b.S s (gG i (b.S s)))/\Goes w t bb (m+1) b b':=by
 have H:=ah h;have n:=ah r;clear h r;go_enter func224,ntmps224;go_wp2_with fail;refine(Gl bb m s b x _ H.out q n.out).mono ?_;rintro e w1 ⟨rfl,d⟩;unfold Ve BX;have g:=ah d;clear d;have o4:((w1.alloc (R #[U G x.o.id,U G x.o.side,U G x.o.kind,U G x.o.price,U G x.o.ak] 155)).alloc (R #[U G x.slot,U G x.age,U G s] 208)).cell? ⟨w1.heap.size,4,B_⟩=A_ (U G x.o.ak):=aj (j:=4) (rz w1 _ _) rfl;have k1:decide (x.o.ak<1)=E_:=RH o7;go_wp2_with fail;have a:Hid (Sd w.heap.size w _):=aJ g.out (gu w1 (R #[U G x.o.id,U G x.o.side,U G x.o.kind,U G x.o.price,U G x.o.ak] 155) (R #[U G x.slot,U G x.age,U G s] 208));clear o4 k1;generalize(w1.alloc (R #[U G x.o.id,U G x.o.side,U G x.o.kind,U G x.o.price,U G x.o.ak] 155)).alloc (R #[U G x.slot,U G x.age,U G s] 208)=w2 at a⊢;refine(KE bb m s b x w2 (H.out.below a.out au) u q n.out).mono ?_;rintro e w3 ⟨rfl,b',c,p⟩;have l:=ah p;have f:Hid (∃i,i<(b.S s).length/\dR (b.S s) i=x/\b'.S=dB b.S s (gG i (b.S s))):=c;clear p c;unfold Ve;go_wp2_with fail;go_ret;refine⟨rfl,b',f.out,l.out.1,(Sz a.out au).trans l.out.2.1 (Tc _ _),λk hk=>(l.out.2.2 k hk).elim RP (λe=>RN (RV a.out.size e))⟩
def BJ(q:Int)(o:Ord):Ord:=⟨o.id,o.side,o.kind,o.price,o.ak - q⟩
def aPa(bb m s:Nat)(b:aU)(x:Ly)(q:Int)(w:C_)(h:Bk w bb m b)(K:m+1<=900000)(v:s<2)(y:x∈b.S s)(O:¬q<1)(L:q<x.o.ak):
  Sj prog 224 #[E (A_ ⟨bb,0,B_⟩),U G x.o.id,U G q] w λe F=>e=Y .nilIface/\Goes w F bb (m+1) b (b.cut s x (BJ q x.o)):=by
 have H:=ah h;have C:=ah y;have D:=ah (h.ok.there s v x y);have A:=h.ok.ok s v x y;clear h y;go_enter func224,ntmps224;go_wp2_with fail;refine(Gl bb m s b x _ H.out v C.out).mono ?_;rintro e w1 ⟨rfl,u⟩;unfold Ve BX;have i:=ah u;clear u;go_upto_region 4 with fail;have g:=gu w1 (R #[U G x.o.id,U G x.o.side,U G x.o.kind,U G x.o.price,U G x.o.ak] 155) (R #[U G x.slot,U G x.age,U G s] 208);have a:=rz w1 (R #[U G x.o.id,U G x.o.side,U G x.o.kind,U G x.o.price,U G x.o.ak] 155) (R #[U G x.slot,U G x.age,U G s] 208);have c:=pR w1 (R #[U G x.o.id,U G x.o.side,U G x.o.kind,U G x.o.price,U G x.o.ak] 155) (R #[U G x.slot,U G x.age,U G s] 208);generalize(w1.alloc (R #[U G x.o.id,U G x.o.side,U G x.o.kind,U G x.o.price,U G x.o.ak] 155)).alloc (R #[U G x.slot,U G x.age,U G s] 208)=w2 at g a c⊢;have l:=ah (aJ i.out g);have M:w.heap.size<=w1.heap.size:=i.out.size;have k1:decide (q<1)=E_:=RH o7;have k2:decide (q>x.o.ak)=E_:=RH o7;have k3:(q == x.o.ak)=E_:=RG.2 o7;have c4:=aj (j:=4) a rfl;have I:=aI (j:=4) a;have r:Hid _:=a;have t:Hid _:=c;clear g a c;go_wp2_with fail;have a:=bg (j:=4) (U G (x.o.ak - q)) r.out;have c:=aH t.out (bL w2 ⟨w1.heap.size,4,B_⟩ (U G (x.o.ak - q))) s7;have d:=l.out.setCell (p:=⟨w1.heap.size,4,B_⟩) M (U G (x.o.ak - q));generalize w2.setCell ⟨w1.heap.size,4,B_⟩ (U G (x.o.ak - q))=w3 at a c d⊢;have n:=ah d;have f:Hid (Bk w3 bb m b):=H.out.below d au;have Q:=aj (j:=0) a rfl;have T:=aj (j:=1) a rfl;have V:=aj (j:=2) a rfl;have W:=aj (j:=3) a rfl;have X:=aj (j:=4) a rfl;have p0:=aj (j:=0) c rfl;have P:=aj (j:=1) c rfl;have N:=aj (j:=0) f.out.at_.box rfl;clear a c d r t l c4 I k1 k2 k3;go_region_with (go_at_call 240;refine(bAl b.ab 100 b.vs b.vf b.rs b.fr x.slot x.o (BJ q x.o) x.age _ (f.out.at_.ar.below (B:=w3.heap.size) ?_ au) D.out).mono ?_;(repeat' first|assumption|exact RS _ _|exact au|refine Um ?_|refine TR ?_ ?_ _|(simp;done)|(simp;omega));rintro e w4 ⟨rfl,J,ho⟩)
 all_goals go_wp2_with fail
 all_goals go_ret
 all_goals(
  have z:Goes w3 w4 bb (m+1) b (b.cut s x (BJ q x.o)):=Goes.cut f.out K v C.out rfl rfl (by have:=A;simp only[BJ];omega) J (by first|exact ho|exact(fI (Tz _ _)).trans ho (Tc _ _));exact⟨rfl,z.1,(Sz n.out au).trans z.2.1 (Tc _ _),λk hk=>(z.2.2 k hk).elim RP (λe=>RN (RV n.out.size e))⟩)
def mG{α:Type}(rank:α->Int)(o:α):List α->List α
 |[]=>[o]
 |x::xs=>if rank x<=rank o then x::mG rank o xs else o::x::xs
def sG{α:Type}(rank:α->Int)(l:List α):List α:=l.foldl (λacc o=>mG rank o acc) []
def Ck(rank:α->Int)(l:List α)(o:α):sG rank (l++[o])=mG rank o (sG rank l):=by simp[sG]
def Oc(side kind price:Int):Int:=if kind=2 then -2000000 else if side=1 then -price else price
def lI(side:Int)(l:List Ord):List Ord:=l.filter λo=>o.side == side
def qC(side:Int)(o:Ord):Int:=Oc side o.kind o.price
def aP(side:Int)(l:List Ord):List Ord:=sG (qC side) (lI side l)
def Ez(p q:Int):Bool:=(decide (1<=p)&& decide (p<=1000000))&& (decide (1<=q)&& decide (q<=1000000))
def dG(o:Ord):Ord:=if o.kind=2 then { o with price:=1 }else o
def addN(o:Ord)(l:List Ord):Int:=
 if(decide (1<=o.side)&& decide (o.side<=2))=E_\/o.id<1 then 1 else if Ez (dG o).price (dG o).ak=E_ then 2 else if 0<=dz o.id l then 9 else if 100<=l.length then 12 else 0
def DU(o:Ord):(dG o).id=o.id:=by unfold dG;split<;>rfl
def aXi(o:Ord):(dG o).side=o.side:=by unfold dG;split<;>rfl
def aK6(h:(decide (1<=o.side)&& decide (o.side<=2))=E_\/o.id<1):addN o l=1:=by unfold addN;rw[RF h]
def aK7(h:(decide (1<=o.side)&& decide (o.side<=2))=G_)(h1:¬o.id<1)(h2:Ez (dG o).price (dG o).ak=E_):addN o l=2:=by
 unfold addN;rw[RD (by rw[h];simp;omega),RF h2]
def Kc(h:(decide (1<=o.side)&& decide (o.side<=2))=G_)(h1:¬o.id<1)(h2:Ez (dG o).price (dG o).ak=G_):addN o l=if 0<=dz o.id l then 9 else if 100<=l.length then 12 else 0:=by
 unfold addN;rw[RD (by rw[h];simp;omega),RD (by rw[h2];simp)]
def fF(o:Ord)(l:List Ord):List Ord:=if addN o l=0 then l++[dG o]else l
def rX(k:Nat)(l:List Ord):List Ord:=l.take k++l.drop (k+1)
def Bl(q:Int)(o:Ord):Ord:={ o with ak:=o.ak - q }
def Mi{α:Type}(rank:α->Int)(o:α):∀l:List α,(mG rank o l).Perm (o::l)
 |[]=>List.Perm.refl _
 |x::xs=>by
  unfold mG;split
  ·exact((Mi rank o xs).cons x).trans (List.Perm.swap o x xs)
  ·exact List.Perm.refl _
def aCi{α:Type}(rank:α->Int):∀(l a:List α),(l.foldl (λa o=>mG rank o a) a).Perm (a++l)
 |[],a=>by simp
 |o::l,a=>by
  rw[List.foldl_cons];exact(aCi rank l _).trans (((Mi rank o a).append_right l).trans List.perm_middle.symm)
def Ao(rank:α->Int)(l:List α):(sG rank l).Perm l:=by have h:=aCi rank l [];rw[Tn]at h;exact h
def oo:o∈aP side l↔(o∈l/\o.side=side):=by
 unfold aP lI;rw[(Ao _ _).mem_iff,Ua];simp
def ED(side:Int)(l:List Ord):(aP side l).length<=l.length:=by
 unfold aP lI;rw[(Ao _ _).length_eq];exact List.length_filter_le _ _
def Oz{P:List α->Prop}(h0:P [])(h1:∀l a,P l->P (l++[a]))(l:List α):P l:=by
 rw[<-List.reverse_reverse l];generalize l.reverse=r
 induction r with
 |nil=>exact h0
 |cons a r ih=>rw[List.reverse_cons];exact h1 _ _ ih
def aV8{o y:α}{l:List α}:y∈mG rank o l↔y=o\/y∈l:=by rw[(Mi rank o l).mem_iff];simp
def aDn{o:α}:∀{l:List α},l.Pairwise (λa b=>rank a<=rank b)->(mG rank o l).Pairwise (λa b=>rank a<=rank b)
 |[],_=>by simp[mG]
 |x::xs,hp=>by
  obtain⟨h1,h2⟩:=Xn.1 hp;unfold mG;split
  ·rename_i hk;refine Xn.2 ⟨λy c=>?_,aDn h2⟩;rcases aV8.1 c with rfl|c
   ·exact hk
   ·exact h1 y c
  ·rename_i hk;refine Xn.2 ⟨λy c=>?_,hp⟩;rcases SB.1 c with rfl|c
   ·omega
   ·have:=h1 y c;omega
def Jk(l:List α):(sG rank l).Pairwise (λa b=>rank a<=rank b):=by
 induction l using Oz with
 |h0=>exact List.Pairwise.nil
 |h1 l a ih=>rw[Ck];exact aDn ih
def Mh{o:α}:∀{l:List α},l.Pairwise (λa b=>rank a<=rank b)->mG rank o l=l.filter (λy=>decide (rank y<=rank o))++o::l.filter (λy=>!decide (rank y<=rank o))
 |[],_=>rfl
 |x::xs,hp=>by
  obtain⟨h1,h2⟩:=Xn.1 hp;unfold mG;split
  ·rename_i hk;rw[Uc (by simpa using hk),Ub (by simpa using hk),Mh h2];rfl
  ·rename_i hk
   have e1:(x::xs).filter (λy=>decide (rank y<=rank o))=[]:=by
    rw[List.filter_eq_nil_iff];intro y c;rcases SB.1 c with rfl|c
    ·simpa using hk
    ·have:=h1 y c;simp;omega
   have e2:(x::xs).filter (λy=>!decide (rank y<=rank o))=x::xs:=by
    rw[XJ];intro y c;rcases SB.1 c with rfl|c
    ·simpa using hk
    ·have:=h1 y c;simp;omega
   rw[e1,e2];rfl
def bF6(p:α->Bool)(l:List α):sG rank (l.filter p)=(sG rank l).filter p:=by
 induction l using Oz with
 |h0=>rfl
 |h1 l a ih=>
  rw[WL,Ck,Mh (Jk l),WL]
  by_cases hp:p a=G_
  ·have f:[a].filter p=[a]:=by rw[Uc hp,List.filter_nil]
   rw[f,Uc hp,Ck,ih,Mh ((Jk l).sublist List.filter_sublist),Vi,Vi,Vi,Vi]
   congr 1
   ·congr 1;funext y;exact Bool.and_comm _ _
   ·congr 2;funext y;exact Bool.and_comm _ _
  ·have f:[a].filter p=[]:=by rw[Ub hp,List.filter_nil]
   rw[f,Ub hp,List.append_nil,ih,Vi,Vi];have g:=Jk (rank:=rank) l;clear ih;generalize sG rank l=r at g
   induction r with
   |nil=>rfl
   |cons x xs ih2=>
    obtain⟨h1,h2⟩:=Xn.1 g;have e:=ih2 h2
    by_cases d:rank x<=rank a
    ·by_cases b:p x=G_
     ·rw[Uc b,Uc (by simp[d,b]),Ub (by simp[d]),e];rfl
     ·rw[Ub b,Ub (by simp[b]),Ub (by simp[d]),e]
    ·have e1:(x::xs).filter (λy=>p y&& decide (rank y<=rank a))=[]:=by
      rw[List.filter_eq_nil_iff];intro y c;rcases SB.1 c with rfl|c
      ·simp[d]
      ·have:=h1 y c;have hn:¬rank y<=rank a:=o7;simp[hn]
     have e2:(x::xs).filter (λy=>p y&& !decide (rank y<=rank a))=(x::xs).filter p:=by
      apply Xz;intro y c
      have hn:¬rank y<=rank a:=by
       rcases SB.1 c with rfl|c
       ·exact d
       ·have:=h1 y c;omega
      simp[hn]
     rw[e1,e2];rfl
def aDm{f:α->α}(b:∀a,rank (f a)=rank a)(o:α):∀l:List α,mG rank (f o) (l.map f)=(mG rank o l).map f
 |[]=>rfl
 |x::xs=>by
  simp only[RY,mG];rw[b,b];split
  ·rw[RY,aDm b o xs]
  ·rfl
def bF7{f:α->α}(b:∀a,rank (f a)=rank a)(l:List α):sG rank (l.map f)=(sG rank l).map f:=by
 induction l using Oz with
 |h0=>rfl
 |h1 l a ih=>rw[TY,List.map_singleton,Ck,Ck,ih,aDm b]
def aDo{o:α}:∀l:List α,mG rank o l=l.take (l.takeWhile λy=>decide (rank y<=rank o)).length++o::l.drop (l.takeWhile λy=>decide (rank y<=rank o)).length
 |[]=>rfl
 |x::xs=>by
  unfold mG;split
  ·rename_i hk;rw[XK,RF (by simpa using hk),SC,List.take_succ_cons,List.drop_succ_cons,aDo xs];rfl
  ·rename_i hk;rw[XK,RD (by simpa using hk)];rfl
def aH9(side:Int)(p:Ord->Bool)(l:List Ord):aP side (l.filter p)=(aP side l).filter p:=by
 unfold aP lI;rw[<-bF6,Vi,Vi]
 congr 2
 funext y
 exact Bool.and_comm _ _
def aIa(side:Int){f:Ord->Ord}(h1:∀o,(f o).side=o.side)(h2:∀o,(f o).kind=o.kind)(h3:∀o,(f o).price=o.price)(l:List Ord):aP side (l.map f)=(aP side l).map f:=by
 unfold aP;rw[<-bF7 (λa=>by unfold qC;rw[h2,h3])]
 congr 1
 unfold lI;rw[List.filter_map]
 congr 1
 apply Xz;intro o _;simp[h1]
def bFg(h:p.side=side):aP side (l++[p])=mG (qC side) p (aP side l):=by
 unfold aP;rw[<-Ck]
 congr 1
 unfold lI;rw[WL,Uc (by simpa using h)];rfl
def bFf(h:p.side≠side):aP side (l++[p])=aP side l:=by
 unfold aP
 congr 1
 unfold lI;rw[WL,Ub (by simpa using h)];simp
def aMv{y:Ord}(b:side=1\/side=2)(hp:p.side=side)(h1:1<=p.price/\p.price<=1000000)(h2:1<=y.price/\y.price<=1000000):(!lZ p y)=decide (qC side y<=qC side p):=by
 unfold lZ qC Oc
 by_cases k1:y.kind=2
 ·rw[RF k1,RF k1]
  by_cases k2:p.kind=2
  ·rw[RF k2];rfl
  ·rw[RD k2];rcases b with rfl|rfl
   ·rw[RF rfl];simp;omega
   ·rw[RD d7];simp;omega
 ·rw[RD k1,RD k1]
  by_cases k2:p.kind=2
  ·rw[RF k2,RF k2];rcases b with rfl|rfl
   ·rw[RF rfl];simp;omega
   ·rw[RD d7];simp;omega
  ·rw[RD k2,RD k2,hp];rcases b with rfl|rfl
   ·rw[RF rfl,RF rfl,RF rfl];by_cases a:y.price<p.price<;>simp[a]<;>omega
   ·rw[RD d7,RD d7,RD d7];by_cases a:p.price<y.price<;>simp[a]<;>omega
def bDc(a:side=1\/side=2)(hp:p.side=side)(h1:1<=p.price/\p.price<=1000000)(h2:∀y∈l,1<=y.price/\y.price<=1000000):iW p l=(l.takeWhile λy=>decide (qC side y<=qC side p)).length:=by
 unfold iW
 congr 1
 induction l with
 |nil=>rfl
 |cons y l ih=>rw[XK,XK,aMv a hp h1 (h2 y s7),ih (λz b=>h2 z (by simp[b]))]
def yA:∀{l:List Ord},(l.map Ord.id).Nodup->∀{a b:Ord},a∈l->b∈l->a.id=b.id->a=b
 |[],_,_,_,h,_,_=>by cases h
 |x::l,hn,a,b,ha,hb,e=>by
  rw[RY,VP]at hn;rcases SB.1 ha with e1|h1
  ·rcases SB.1 hb with e2|h2
   ·rw[e1,e2]
   ·exact(hn.1 (Ti.2 ⟨b,h2,by rw[<-e,e1]⟩)).elim
  ·rcases SB.1 hb with e2|h2
   ·exact(hn.1 (Ti.2 ⟨a,h1,by rw[e,e2]⟩)).elim
   ·exact yA hn.2 h1 h2 e
def Ie(h:k<l.length):aO l k∈l:=by rw[pG h];exact List.getElem_mem h
def aDb(id:Int):∀(l:List Ord) (i:Nat),(∀o∈l,o.id≠id)->jY id i l=-1
 |[],_,_=>rfl
 |o::l,i,h=>by
  show(if o.id=id then(i:Int)else jY id (i+1) l)=-1;rw[RD (h o s7),aDb id l (i+1) (λy a=>h y (by simp[a]))]
def GL(id:Int):∀(l:List Ord) (i:Nat),(∃o∈l,o.id=id)->0<=jY id i l
 |[],_,h=>by obtain⟨_,h,_⟩:=h;cases h
 |o::l,i,h=>by
  show 0<=(if o.id=id then(i:Int)else jY id (i+1) l);split
  ·omega
  ·rename_i hne;obtain⟨y,a,e⟩:=h;rcases SB.1 a with rfl|a
   ·exact absurd e hne
   ·exact GL id l (i+1) ⟨y,a,e⟩
def OE(h:k<l.length):l=l.take k++aO l k::l.drop (k+1):=by rw[pG h,<-Tt h,WA]
def others(hn:(l.map Ord.id).Nodup)(hk:k<l.length):(∀o∈l.take k,o.id≠(aO l k).id)/\(∀o∈l.drop (k+1),o.id≠(aO l k).id):=by
 rw[OE hk,TY,RY,XA]at hn;obtain⟨_,h2,h3⟩:=hn;rw[VP]at h2;refine⟨λo ho e=>?_,λo ho e=>?_⟩
 ·exact h3 o.id (Ti.2 ⟨o,ho,rfl⟩) (aO l k).id s7 e
 ·exact h2.1 (Ti.2 ⟨o,ho,e⟩)
def GA(hn:(l.map Ord.id).Nodup)(hk:k<l.length):rX k l=l.filter (λo=>decide (o.id≠(aO l k).id)):=by
 obtain⟨h1,h2⟩:=others hn hk;have a:=OE hk;generalize aO l k=x at h1 h2 a⊢
 conv=>rhs;rw[a]
 rw[WL,Ub s7,XJ.2 (λo ho=>by simpa using h1 o ho),XJ.2 (λo ho=>by simpa using h2 o ho)];rfl
def dO(id q:Int)(o:Ord):Ord:=if o.id=id then Bl q o else o
def KP(id q:Int)(o:Ord):(dO id q o).id=o.id:=by unfold dO;split<;>rfl
def Dl(id q:Int)(o:Ord):(dO id q o).side=o.side:=by unfold dO;split<;>rfl
def KQ(id q:Int)(o:Ord):(dO id q o).kind=o.kind:=by unfold dO;split<;>rfl
def FP(id q:Int)(o:Ord):(dO id q o).price=o.price:=by unfold dO;split<;>rfl
def aH6(q:Int)(hn:(l.map Ord.id).Nodup)(hk:k<l.length):l.set k (Bl q (aO l k))=l.map (dO (aO l k).id q):=by
 obtain⟨h1,h2⟩:=others hn hk;have a:=OE hk;rw[List.set_eq_take_append_cons_drop,RF hk];generalize aO l k=x at h1 h2 a⊢
 have e1:(l.take k).map (dO x.id q)=l.take k:=by
  conv=>rhs;rw[<-List.map_id (l.take k)]
  apply SF;intro o ho;unfold dO;rw[RD (h1 o ho)];rfl
 have e2:(l.drop (k+1)).map (dO x.id q)=l.drop (k+1):=by
  conv=>rhs;rw[<-List.map_id (l.drop (k+1))]
  apply SF;intro o ho;unfold dO;rw[RD (h2 o ho)];rfl
 have b:dO x.id q x=Bl q x:=RF rfl
 conv=>rhs;rw[a]
 rw[TY,RY,e1,e2,b]
structure bD(S:Nat->List Ly)(L:List Ord):Prop where
 side:∀s,s<2->(S s).map Ly.o=aP ((s:Int)+1) L
 all:∀o∈L,o.side=1\/o.side=2
 ids:(L.map Ord.id).Nodup
def bD.start:bD (λ_=>[]) []:=⟨λ_ _=>rfl,λ_ h=>(by cases h),List.nodup_nil⟩
variable {S:Nat->List Ly} {s:Nat}
def bD.mem(h:bD S L):o∈L↔∃s,s<2/\∃x∈S s,x.o=o:=by
 constructor
 ·intro ho
  have a:∀s:Nat,s<2->o.side=(s:Int)+1->∃s,s<2/\∃x∈S s,x.o=o:=λs b e=>by
   have h1:o∈aP ((s:Int)+1) L:=oo.2 ⟨ho,e⟩;rw[<-h.side s b]at h1;obtain⟨x,c,rfl⟩:=Ti.1 h1;exact⟨s,b,x,c,rfl⟩
  rcases h.all o ho with e|e
  ·exact a 0 d7 (by rw[e];rfl)
  ·exact a 1 d7 (by rw[e];rfl)
 ·rintro⟨s,b,x,c,rfl⟩;have h1:x.o∈(S s).map Ly.o:=Ti.2 ⟨x,c,rfl⟩;rw[h.side s b]at h1;exact(oo.1 h1).1
def bD.none(h:bD S L){id:Int}(hn:∀s,s<2->∀x∈S s,x.o.id≠id):∀o∈L,o.id≠id:=λo ho=>by
 obtain⟨s,a,x,b,rfl⟩:=h.mem.1 ho;exact hn s a x b
def bD.DK(h:bD S L){id:Int}(hn:∀s,s<2->∀x∈S s,x.o.id≠id):dz id L=-1:=aDb id L 0 (h.none hn)
def bD.aDc(h:bD S L)(a:s<2)(b:x∈S s):0<=dz x.o.id L:=GL _ L 0 ⟨x.o,h.mem.2 ⟨s,a,x,b,rfl⟩,rfl⟩
def bD.at(h:bD S L)(a:s<2)(b:x∈S s)(hk:k<L.length)(e:(aO L k).id=x.o.id):aO L k=x.o:=yA h.ids (Ie hk) (h.mem.2 ⟨s,a,x,b,rfl⟩) e
def bD.len(h:bD S L):L.length=(S 0).length+(S 1).length:=by
 have c:∀s,s<2->(S s).length=(lI ((s:Int)+1) L).length:=λs d=>by
  have:=RJ List.length (h.side s d);rw[TL]at this;rw[this];exact(Ao _ _).length_eq
 have a:∀l:List Ord,(∀o∈l,o.side=1\/o.side=2)->l.length=(lI 1 l).length+(lI 2 l).length:=λl=>by
  induction l with
  |nil=>intro _;rfl
  |cons o l ih=>
   intro b;have:=ih (λy f=>b y (by simp[f]));unfold lI at *;rcases b o s7 with e|e
   ·rw[Uc (by simp[e]),Ub (by simp[e])];simp;omega
   ·rw[Ub (by simp[e]),Uc (by simp[e])];simp;omega
 rw[c 0 d7,c 1 d7];exact a L h.all
def bD.ok(h:bD S L)(hp:Pb m rs fr S):∀o∈L,1<=o.price/\o.price<=1000000/\1<=o.ak/\o.ak<=1000000:=λo ho=>by
 obtain⟨s,a,x,b,rfl⟩:=h.mem.1 ho;have:=hp.ok s a x b;omega
def bD.add(h:bD S L){a:Int}(m:s<2)(hp:p.side=(s:Int)+1)(h1:1<=p.price/\p.price<=1000000)(d:∀o∈L,1<=o.price/\o.price<=1000000)(c:∀o∈L,o.id≠p.id):
  bD (dB S s (fG (iW p ((S s).map Ly.o)) ⟨k,a,p⟩ (S s))) (L++[p]):=by
 have b:(s:Int)+1=1\/(s:Int)+1=2:=o7;refine⟨λt g=>?_,λo ho=>?_,?_⟩
 ·by_cases e:t=s
  ·subst e;rw[yU,bFg hp,aDo];unfold fG;rw[TY,RY,List.map_take,List.map_drop,h.side t g,bDc b hp h1 (λy l=>d y (oo.1 l).1)]
  ·rw[yT _ e,bFf (by rw[hp];omega)];exact h.side t g
 ·rcases List.mem_append.1 ho with ho|ho
  ·exact h.all o ho
  ·simp at ho;subst ho;rw[hp];exact b
 ·rw[TY,XA];refine⟨h.ids,by simp,λi hi j f=>?_⟩;obtain⟨o,ho,rfl⟩:=Ti.1 hi;simp at f;subst f;exact c o ho
def bD.gone(h:bD S L)(hp:Pb m rs fr S)(l:s<2)(hi:i<(S s).length)(n:dR (S s) i=x)(hk:k<L.length)(f:(aO L k).id=x.o.id):bD (dB S s (gG i (S s))) (rX k L):=by
 have b:x∈S s:=by rw[<-n];exact aEu hi
 rw[GA h.ids hk,f];refine⟨λt c=>?_,λo ho=>h.all o (Ua.1 ho).1,?_⟩
 ·rw[aH9,<-h.side t c]
  by_cases e:t=s
  ·subst e
   have hn:(((S t).map Ly.o).map Ord.id).Nodup:=by
    rw[Vs];have r:=(Ag S c).map (λx=>x.o.id);have g:=r.nodup_iff.1 hp.ids;rw[TY]at g;exact(XA.1 g).1
   have a:i<((S t).map Ly.o).length:=by rw[TL];exact hi
   have d:aO ((S t).map Ly.o) i=x.o:=by rw[<-n,yD hi,pG a,List.getElem_map]
   have j:=GA hn a;rw[d]at j;rw[yU,<-j];unfold gG rX;rw[TY,List.map_take,List.map_drop]
  ·rw[yT _ e]
   symm
   rw[XJ];intro o ho;obtain⟨y,p,rfl⟩:=Ti.1 ho;simp only[decide_eq_true_eq];intro e2;have q:=hp.Nu c l p b e2;subst q;exact e (hp.Nv c l p b)
 ·exact h.ids.sublist (List.filter_sublist.map _)
def bD.cut(h:bD S L)(hp:Pb m rs fr S){q:Int}(g:s<2)(d:x∈S s)(hk:k<L.length)(f:(aO L k).id=x.o.id):bD (dB S s (jq x (BJ q x.o) (S s))) (L.set k (Bl q (aO L k))):=by
 rw[aH6 q h.ids hk,f]
 have c:∀t,t<2->(dB S s (jq x (BJ q x.o) (S s)) t).map Ly.o=((S t).map Ly.o).map (dO x.o.id q):=λt a=>by
  by_cases e:t=s
  ·subst e;rw[yU];unfold jq;rw[Vs,Vs];apply SF;intro y b;simp only[Function.comp];split
   ·rename_i e1;obtain rfl:=hp.BU a a b d e1;unfold dO;rw[RF rfl];rfl
   ·rename_i e1;unfold dO;rw[RD (λe2=>e1 (by rw[hp.Nu a a b d e2]))]
  ·rw[yT _ e,Vs];apply SF;intro y b;simp only[Function.comp];unfold dO
   rw[RD (λe2=>by
    have i:=hp.Nu a g b d e2;subst i;exact e (hp.Nv a g b d))]
 refine⟨λt a=>?_,λo ho=>?_,?_⟩
 ·rw[c t a,aIa _ (Dl _ _) (KQ _ _) (FP _ _),h.side t a]
 ·obtain⟨y,b,rfl⟩:=Ti.1 ho;rw[Dl];exact h.all y b
 ·rw[Vs];have:(Ord.id∘ dO x.o.id q)=Ord.id:=by funext o;exact KP _ _ _
  rw[this];exact h.ids
def aXj(o:Ord):eT o=dG o:=rfl
def EF(s:Int):qE s=(decide (1<=s)&& decide (s<=2)):=by
 unfold qE
 by_cases h:s=1
 ·subst h;rfl
 by_cases a:s=2
 ·subst a;rfl
 have h1:=RG.2 h;have h2:=RG.2 a;rw[h1,h2]
 by_cases h3:1<=s
 ·have:¬s<=2:=o7;simp[this]
 ·simp[h3]
def KD(id:Int)(L:List Ord):Ord:=if dz id L=-1 then d_ else aO L (dz id L).toNat
def tC(id:Int)(L:List Ord):Int:=if dz id L=-1 then 7 else 0
def kI(id:Int)(L:List Ord):List Ord:=if dz id L=-1 then L else rX (dz id L).toNat L
def wC(id q:Int)(L:List Ord):Int:=if dz id L=-1 then 7 else if(decide (1<=q)&& decide (q<=(aO L (dz id L).toNat).ak))=E_ then 2 else 0
def rT(id q:Int)(L:List Ord):List Ord:=if dz id L=-1 then L else if(decide (1<=q)&& decide (q<=(aO L (dz id L).toNat).ak))=E_ then L else if(aO L (dz id L).toNat).ak=q then rX (dz id L).toNat L else L.set (dz id L).toNat (Bl q (aO L (dz id L).toNat))
structure dx where
 iC:Int
 iK:Int
 price:Int
 ak:Int
def fV:List dx->List D_
 |[]=>[]
 |x::l=>U G x.iC::U G x.iK::U G x.price::U G x.ak::fV l
def dx.none_:dx:=⟨0,0,0,0⟩
def lu(l:List dx)(k:Nat):dx:=l.getD k dx.none_
def aTe(a b:List dx):fV (a++b)=fV a++fV b:=by
 induction a with
 |nil=>rfl
 |cons o a ih=>simp[fV,ih]
def aBv(a:List dx)(x:dx):fV (a++[x])=fV a++[U G x.iC,U G x.iK,U G x.price,U G x.ak]:=by rw[aTe];rfl
def aTf{l:List dx}(h:k<l.length):(fV l)[k*4]? = A_ (U G (lu l k).iC)/\(fV l)[k*4+1]? = A_ (U G (lu l k).iK)/\(fV l)[k*4+2]? = A_ (U G (lu l k).price)/\(fV l)[k*4+3]? = A_ (U G (lu l k).ak):=by
 induction l generalizing k with
 |nil=>simp at h
 |cons o l ih=>
  cases k with
  |zero=>exact⟨rfl,rfl,rfl,rfl⟩
  |succ k=>
   have:=ih (k:=k) (by simpa using h);rw[show(k+1)*4=k*4+1+1+1+1 by omega];have e:lu (o::l) (k+1)=lu l k:=by simp[lu]
   rw[e]
   simpa[fV]using this
structure dZ(L:List Ord):Prop where
 side:∀o∈L,o.side=1\/o.side=2
 ids:(L.map Ord.id).Nodup
 ok:∀o∈L,1<=o.price/\o.price<=1000000/\1<=o.ak/\o.ak<=1000000
def bR(id n:Int)(L:List Ord):List Ord:=(L.map (dO id n)).filter λo=>decide (0<o.ak)
def Dk{id:Int}(h:o.id≠id):dO id n o=o:=RD h
def aO4(n:Int)(o:Ord):dO o.id n o=Bl n o:=RF rfl
def aEa(id n:Int):∀L:List Ord,(∀o∈L,o.id=id->o.ak=n)->(∀o∈L,1<=o.ak)->bR id n L=L.filter (λo=>decide (o.id≠id))
 |[],_,_=>rfl
 |o::L,h1,h2=>by
  have b:=aEa id n L (λx a=>h1 x (SI _ a)) (λx a=>h2 x (SI _ a));unfold bR at b⊢;have d:=h2 o (SG ..)
  by_cases e:o.id=id
  ·have hn:=h1 o (SG ..) e;have c:(dO id n o).ak=0:=by unfold dO;rw[RF e];show o.ak - n=0;omega
   rw[RY,Ub (by rw[c];decide),b,Ub (by simp[e])]
  ·rw[RY,Dk e,Uc (by simpa using(show 0<o.ak by omega)),b,Uc (by simpa using e)]
def aEb(id n:Int):∀L:List Ord,(∀o∈L,o.id=id->n<o.ak)->(∀o∈L,1<=o.ak)->bR id n L=L.map (dO id n)
 |[],_,_=>rfl
 |o::L,h1,h2=>by
  have b:=aEb id n L (λx a=>h1 x (SI _ a)) (λx a=>h2 x (SI _ a));unfold bR at b⊢;have c:=h2 o (SG ..)
  have hp:0<(dO id n o).ak:=by
   by_cases e:o.id=id
   ·have hn:=h1 o (SG ..) e;unfold dO;rw[RF e];show 0<o.ak - n;omega
   ·rw[Dk e];omega
  rw[RY,Uc (by simpa using hp),b]
def aVo(h:dZ L)(ho:o∈L):∃k:Nat,k<L.length/\dz o.id L=k/\aO L k=o:=by
 rcases DJ o.id L 0 with h1|⟨k,hk,h1,h2⟩
 ·have:=GL o.id L 0 ⟨o,ho,rfl⟩;omega
 ·exact⟨k,hk,by show jY o.id 0 L=k;rw[h1];congr 1;omega,yA h.ids (Ie hk) ho h2⟩
def KR(h:dZ L)(ho:o∈L)(hn:1<=n/\n<=o.ak):rT o.id n L=bR o.id n L/\wC o.id n L=0:=by
 obtain⟨k,hk,h1,h2⟩:=aVo h ho;have c:¬dz o.id L=-1:=o7;have f:(dz o.id L).toNat=k:=o7;have g:¬(decide (1<=n)&& decide (n<=o.ak))=E_:=by simp[hn.1,hn.2]
 have b:∀x∈L,x.id=o.id->x=o:=λx a e=>yA h.ids a ho e
 unfold rT wC;rw[RD c,RD c,f,h2,RD g,RD g];refine⟨?_,rfl⟩
 by_cases e:o.ak=n
 ·rw[RF e,GA h.ids hk,h2,aEa o.id n L (λx a d=>by rw[b x a d];exact e) (λx a=>(h.ok x a).2.2.1)]
 ·rw[RD e];have:=aH6 n h.ids hk;rw[h2]at this;rw[this,aEb o.id n L (λx a d=>by rw[b x a d];omega) (λx a=>(h.ok x a).2.2.1)]
def MC{id:Int}{x:Ord}(h:x∈bR id n L):∃y∈L,x=dO id n y/\0<x.ak:=by
 unfold bR at h;rw[Ua,Ti]at h;obtain⟨⟨y,a,rfl⟩,h2⟩:=h;exact⟨y,a,rfl,by simpa using h2⟩
def aO5{id:Int}(hn:0<=n):(dO id n o).ak<=o.ak:=by
 unfold dO;split
 ·show o.ak - n<=o.ak;omega
 ·exact Int.le_refl _
def dZ.less(h:dZ L)(id:Int)(hn:0<=n):dZ (bR id n L):=by
 refine⟨λx a=>?_,?_,λx a=>?_⟩
 ·obtain⟨y,b,rfl,_⟩:=MC a;rw[Dl];exact h.side y b
 ·unfold bR;refine(List.Nodup.sublist ?_ h.ids)
  have e:(L.map (dO id n)).map Ord.id=L.map Ord.id:=by
   rw[Vs];exact SF (λo _=>KP id n o)
  rw[<-e];exact(List.filter_sublist).map _
 ·obtain⟨y,b,rfl,h2⟩:=MC a;have h3:=h.ok y b;have c:=aO5 (id:=id) (o:=y) hn;rw[FP];omega
def bFi(s id n:Int)(L:List Ord):aP s (bR id n L)=((aP s L).map (dO id n)).filter λo=>decide (0<o.ak):=by
 unfold bR;rw[aH9,aIa s (Dl id n) (KQ id n) (FP id n)]
def aEe{id n:Int}:∀{l:List Ord},(∀o∈l,o.id≠id)->(∀o∈l,1<=o.ak)->(l.map (dO id n)).filter (λo=>decide (0<o.ak))=l
 |[],_,_=>rfl
 |o::l,h1,h2=>by
  have b:=h2 o (SG ..);rw[RY,Dk (h1 o (SG ..)),Uc (by simpa using(show 0<o.ak by omega)),aEe (λx a=>h1 x (SI _ a)) (λx a=>h2 x (SI _ a))]
def bFh(h:dZ L)(s:Int):((aP s L).map Ord.id).Nodup:=by
 have h1:(lI s L).Sublist L:=List.filter_sublist;have h2:=(h1.map Ord.id).nodup h.ids;exact((Ao (qC s) (lI s L)).map Ord.id).nodup_iff.2 h2
def bFj(h:dZ L){s t:Int}{x:Ord}(f:x∈aP s L)(b:t≠s):aP t (bR x.id n L)=aP t L:=by
 obtain⟨d,hxs⟩:=oo.1 f;rw[bFi];refine aEe (λo ho e=>?_) (λo ho=>(h.ok o (oo.1 ho).1).2.2.1);obtain⟨c,a⟩:=oo.1 ho;have:=yA h.ids c d e;rw[this,hxs]at a;exact b a.symm
def jR(s p:Int)(o:Ord):Bool:=(o.kind == 2) || (((s == 1)&& decide (p<=o.price)) || ((s == 2)&& decide (o.price<=p)))
def dw(s p:Int)(L:List Ord):Int:=(L.map λo=>if(o.side == s&& jR s p o)=G_ then o.ak else 0).sum
def xG(s p:Int)(o:Ord)(L:List Ord):dw s p (o::L)=(if(o.side == s&& jR s p o)=G_ then o.ak else 0)+dw s p L:=by simp[dw]
def aJ8(s p:Int):∀{L:List Ord},dZ L->0<=dw s p L/\dw s p L<=1000000*(L.length:Int)
 |[],_=>by simp[dw]
 |o::L,h=>by
  have b:dZ L:=⟨λx a=>h.side x (SI _ a),(VP.1 h.ids).2,λx a=>h.ok x (SI _ a)⟩;have c:=aJ8 s p b;have ho:=h.ok o (SG ..);rw[xG,SC];split<;>omega
def aKa{s p:Int}:∀{L:List Ord},(∀o∈L,1<=o.ak)->0<dw s p L->∃o∈L,o.side=s/\jR s p o=G_
 |[],_,h=>by simp[dw]at h
 |o::L,hq,h=>by
  rw[xG]at h
  by_cases e:(o.side == s&& jR s p o)=G_
  ·rw[Bool.and_eq_true,beq_iff_eq]at e;exact⟨o,SG ..,e.1,e.2⟩
  ·rw[RD e]at h;obtain⟨x,a,h1⟩:=aKa (λy b=>hq y (SI _ b)) (show 0<dw s p L by omega);exact⟨x,SI _ a,h1⟩
def aJ9{s p id n:Int}:∀{L:List Ord},(L.map Ord.id).Nodup->(∀o∈L,1<=o.ak)->(∀o∈L,o.id=id->n<=o.ak)->dw s p (bR id n L)=dw s p L - (if ∃o∈L,o.id=id/\(o.side == s&& jR s p o)=G_ then n else 0)
 |[],_,_,_=>by simp[dw,bR]
 |o::L,hd,hq,hn=>by
  rw[RY,VP]at hd;have c:=aJ9 (s:=s) (p:=p) (id:=id) (n:=n) hd.2 (λx a=>hq x (SI _ a)) (λx a=>hn x (SI _ a));have r:=hq o (SG ..);have k:∀(q:Int),(({ o with ak:=q }:Ord).side == s&& jR s p { o with ak:=q })=(o.side == s&& jR s p o):=λq=>rfl
  by_cases e:o.id=id
  ·have f:¬∃x∈L,x.id=id/\(x.side == s&& jR s p x)=G_:=λ⟨x,a,h1,_⟩=>hd.1 (Ti.2 ⟨x,a,by rw[h1,e]⟩)
   rw[RD f]at c;have m:=hn o (SG ..) e;have l:dO id n o={ o with ak:=o.ak - n }:=by unfold dO;rw[RF e];rfl
   have i:bR id n (o::L)=if 0<o.ak - n then { o with ak:=o.ak - n }::bR id n L else bR id n L:=by
    unfold bR;rw[RY,l,List.filter_cons];simp
   by_cases b:(o.side == s&& jR s p o)=G_
   ·have j:∃x∈o::L,x.id=id/\(x.side == s&& jR s p x)=G_:=⟨o,SG ..,e,b⟩;have e1:dw s p (o::L)=o.ak+dw s p L:=by rw[xG,RF b]
    rw[i,e1,RF j]
    by_cases hp:0<o.ak - n
    ·have e2:dw s p ({ o with ak:=o.ak - n }::bR id n L)=(o.ak - n)+dw s p (bR id n L):=by rw[xG,k,RF b]
     rw[RF hp,e2,c];omega
    ·rw[RD hp,c];omega
   ·have g:¬∃x∈o::L,x.id=id/\(x.side == s&& jR s p x)=G_:=λ⟨x,a,h1,h2⟩=>by
     rw[SB]at a;rcases a with rfl|a
     ·exact b h2
     ·exact f ⟨x,a,h1,h2⟩
    have e1:dw s p (o::L)=0+dw s p L:=by rw[xG,RD b]
    rw[i,e1,RD g]
    by_cases hp:0<o.ak - n
    ·have e2:dw s p ({ o with ak:=o.ak - n }::bR id n L)=0+dw s p (bR id n L):=by rw[xG,k,RD b]
     rw[RF hp,e2,c];omega
    ·rw[RD hp,c];omega
  ·have i:bR id n (o::L)=o::bR id n L:=by
    unfold bR;rw[RY,Dk e,Uc (by simpa using(show 0<o.ak by omega))]
   have d:(∃x∈o::L,x.id=id/\(x.side == s&& jR s p x)=G_)↔∃x∈L,x.id=id/\(x.side == s&& jR s p x)=G_:=by
    constructor
    ·rintro⟨x,a,h1,h2⟩;rw[SB]at a;rcases a with rfl|a
     ·exact absurd h1 e
     ·exact⟨x,a,h1,h2⟩
    ·rintro⟨x,a,h1,h2⟩;exact⟨x,SI _ a,h1,h2⟩
   rw[i,xG,xG,c];simp only[d];omega
def QS(h:dZ L){s p:Int}(j:s=1\/s=2)(k:0<dw s p L):∃x T,aP s L=x::T/\x∈L/\x.side=s/\jR s p x=G_:=by
 obtain⟨o,ho,h1,h2⟩:=aKa (λy m=>(h.ok y m).2.2.1) k;have c:o∈aP s L:=oo.2 ⟨ho,h1⟩
 match hS:aP s L with
 |[]=>rw[hS]at c;cases c
 |x::T=>
  have l:x∈aP s L:=by rw[hS];exact SG ..
  obtain⟨d,hxs⟩:=oo.1 l;refine⟨x,T,rfl,d,hxs,?_⟩
  have b:qC s x<=qC s o:=by
   have a:=Jk (rank:=qC s) (lI s L);rw[show sG (qC s) (lI s L)=x::T from hS,Xn]at a;rw[hS,SB]at c;rcases c with rfl|c
   ·exact Int.le_refl _
   ·exact a.1 o c
  have q:=h.ok x d;have n:=h.ok o ho;unfold qC Oc at b;unfold jR at h2⊢
  by_cases g:x.kind=2
  ·rw[g];rfl
  ·rw[RD g]at b
   by_cases e:o.kind=2
   ·rw[RF e]at b;split at b<;>omega
   ·rw[RD e]at b;have f:=RG.2 e;have i:=RG.2 g;rw[f,XU]at h2;rw[i,XU];rcases j with rfl|rfl
    ·rw[RF rfl,RF rfl]at b;simp at h2⊢;omega
    ·rw[RD d7,RD d7]at b;simp at h2⊢;omega
structure FS where
 fs:List dx
 L:List Ord
 q:Int
def nK(s:Int)(L:List Ord):Ord:=aO (aP s L) 0
def dD(s:FS):Int:=min s.q (min (nK 1 s.L).ak (nK 2 s.L).ak)
def jX(p:Int)(s:FS):FS:=⟨s.fs++[⟨(nK 1 s.L).id,(nK 2 s.L).id,p,dD s⟩],rT (nK 2 s.L).id (dD s) (rT (nK 1 s.L).id (dD s) s.L),s.q - dD s⟩
def fB(p:Int)(s:FS):Nat->FS
 |0=>s
 |k+1=>jX p (fB p s k)
structure pV(p:Int)(s:FS):Prop where
 ok:dZ s.L
 nn:0<=s.q
 buy:s.q<=dw 1 p s.L
 bEx:s.q<=dw 2 p s.L
def Dv{p:Int}{s:FS}(h:pV p s)(H:0<s.q):
  (∃x T y U,aP 1 s.L=x::T/\aP 2 s.L=y::U/\nK 1 s.L=x/\nK 2 s.L=y/\x∈s.L/\y∈s.L/\y∈bR x.id (dD s) s.L/\1<=dD s/\dD s<=s.q/\dD s<=x.ak/\dD s<=y.ak/\rT x.id (dD s) s.L=bR x.id (dD s) s.L/\(jX p s).L=bR y.id (dD s) (bR x.id (dD s) s.L)
   /\wC x.id (dD s) s.L=0/\wC y.id (dD s) (bR x.id (dD s) s.L)=0/\dZ (bR x.id (dD s) s.L))/\pV p (jX p s):=by
 obtain⟨a,_,G,I⟩:=h;obtain⟨x,T,i,b,hxs,A⟩:=QS a (s:=1) (p:=p) (RP rfl) o7;obtain⟨y,U,j,u,v,B⟩:=QS a (s:=2) (p:=p) (RN rfl) o7;have k:nK 1 s.L=x:=by unfold nK;rw[i];rfl
 have l:nK 2 s.L=y:=by unfold nK;rw[j];rfl
 have J:=a.ok x b;have K:=a.ok y u;have hn:dD s=min s.q (min x.ak y.ak):=by unfold dD;rw[k,l]
 obtain⟨n,m⟩:∃n,dD s=n:=⟨_,rfl⟩;have g:1<=n/\n<=s.q/\n<=x.ak/\n<=y.ak:=o7;obtain⟨D,E⟩:=KR a b (n:=n) o7;have c:=a.less x.id (n:=n) o7
 have f:y∈bR x.id n s.L:=by
  have:y∈aP 2 (bR x.id n s.L):=by
   rw[bFj a (s:=1) (t:=2) (x:=x) (by rw[i];exact SG ..) d7,j];exact SG ..
  exact(oo.1 this).1
 obtain⟨F,c4⟩:=KR c f (n:=n) o7;have C:=c.less y.id (n:=n) o7
 have d:(jX p s).L=bR y.id n (bR x.id n s.L):=by
  show rT (nK 2 s.L).id (dD s) (rT (nK 1 s.L).id (dD s) s.L)=_;rw[k,l,m,D,F]
 have r:(jX p s).q=s.q - n:=by show s.q - dD s=_;rw[m]
 have one:∀{L:List Ord},dZ L->∀{z:Ord},z∈L->n<=z.ak->∀t,dw t p (bR z.id n L)=dw t p L - (if(z.side == t&& jR t p z)=G_ then n else 0):=fun {L} d {z} hz hzq t=>by
  rw[aJ9 d.ids (λo ho=>(d.ok o ho).2.2.1) (λo ho e=>by rw[yA d.ids ho hz e];exact hzq)]
  congr 1
  by_cases w:(z.side == t&& jR t p z)=G_
  ·rw[RF w,RF ⟨z,hz,rfl,w⟩]
  ·rw[RD w,RD];rintro⟨o,ho,e,h2⟩;rw[yA d.ids ho hz e]at h2;exact w h2
 have w1:=one a b g.2.2.1 1;have w2:=one a b g.2.2.1 2;have w3:=one c f g.2.2.2 1;have w4:=one c f g.2.2.2 2;rw[RF (by rw[hxs,A];rfl)]at w1;rw[RD (by rw[hxs];simp)]at w2;rw[RD (by rw[v];simp)]at w3;rw[RF (by rw[v,B];rfl)]at w4;rw[m];refine⟨⟨x,T,y,U,i,j,k,l,b,u,f,g.1,g.2.1,g.2.2.1,g.2.2.2,D,d,E,c4,c⟩,?_⟩;refine⟨by rw[d];exact C,by rw[r];omega,?_,?_⟩
 ·rw[d,r,w3,w1];omega
 ·rw[d,r,w4,w2];omega
def Ls{p:Int}{s:FS}(h:pV p s):∀k,(∀j,j<k->0<(fB p s j).q)->pV p (fB p s k)
 |0,_=>h
 |k+1,hq=>(Dv (Ls h k (λj a=>hq j o7)) (hq k o7)).2
structure MS where
 fs:List dx
 L:List Ord
 q:Int
 ts:List Int
def sj(o x:Ord)(n:Int):dx:=if o.side=1 then⟨o.id,x.id,x.price,n⟩else⟨x.id,o.id,x.price,n⟩
def pF(o x:Ord)(s:MS):MS:=⟨s.fs++[sj o x (min s.q x.ak)],bR x.id (min s.q x.ak) s.L,s.q - min s.q x.ak,s.ts++[x.price]⟩
def wJ(o x:Ord):Bool:=!decide (o.kind=2)&& (decide (o.side=1)&& decide (o.price<x.price) || decide (o.side=2)&& decide (x.price<o.price))
section
variable {al:Int->Bool} {o x:Ord} {T X:List Ord} {s:MS}
structure oJ(X:List Ord)(s:MS):Prop where
 ok:dZ s.L
 here:∀x∈X,x∈s.L
 ids:(X.map Ord.id).Nodup
 one:s.ts.length=s.fs.length
end
def oJ.pass{x:Ord}{s:MS}(h:oJ (x::T) s):oJ T s:=⟨h.ok,λy a=>h.here y (SI _ a),(VP.1 h.ids).2,h.one⟩
def oJ.lots{x:Ord}{s:MS}(h:oJ (x::T) s)(a:0<s.q):1<=min s.q x.ak/\min s.q x.ak<=x.ak/\min s.q x.ak<=s.q:=by
 have:=h.ok.ok x (h.here x (SG ..));omega
def oJ.step{x:Ord}{s:MS}(o:Ord)(h:oJ (x::T) s)(d:0<s.q):oJ T (pF o x s):=by
 have h1:=(VP.1 h.ids);have hn:=h.lots d;refine⟨h.ok.less _ o7,λy c=>?_,h1.2,?_⟩
 ·have a:y.id≠x.id:=λe=>h1.1 (by rw[<-e];exact List.mem_map_of_mem c)
  have b:=h.here y (SI _ c);show y∈bR _ _ _;unfold bR;rw[Ua,Ti];exact⟨⟨y,b,Dk a⟩,by have:=h.ok.ok y b;simpa using(show 0<y.ak by omega)⟩
 ·show(s.ts++[_]).length=(s.fs++[_]).length;rw[Sl,Sl,h.one];rfl
def oJ.start(h:dZ l)(t q:Int):oJ (aP t l) ⟨[],l,q,[]⟩:=⟨h,λ_ a=>(oo.1 a).1,bFh h t,rfl⟩
end Go.Proofs.YtpodibeogglplaaGreatDoor
