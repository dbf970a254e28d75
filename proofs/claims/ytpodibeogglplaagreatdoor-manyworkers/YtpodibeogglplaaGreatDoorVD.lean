/- ManyWorkers -/
import Derived.Test.YtpodibeogglplaaGreatDoorVC
import Derived.Lib.QuietBelow
open Go.RowKit Go.Shelf
open Go.Value renaming int->U, pointer->E, slice->J
open Go.IntKind renaming i64->G
open Go.Obj renaming cells->R
open Go.Ending renaming returned->Y
open Go.Proofs.Tryz
open Bool renaming false->E_, true->G_, eq_iff_iff->Vm, or_eq_true->XD, and_eq_true->SV, false_eq_true->SE, eq_false_iff->Wx
open Go renaming World->C_, Value->D_, Calls->Sj, lt_of_block->SK, Addr->J_, cell_regrown->TJ, redrawn->Vl, Regrown->V_, wp_region_quiet_below->TU, wpQuiet_nil->Wq, below_regrown->Uh, heap_alloc_new->RU, bodyPost_ret->UA
open Go.Calls renaming regrown_of->VA
open Go.Ending renaming returned->Ze
open Go.Lit renaming int->Tv
open Go.Maps renaming atKey_put_same->Ww, atKey_put_other->Wm
open Go.RowKit renaming Below->Sd
open Go.RowKit.Below renaming refl->RS, alloc->TR, setCell->Zh
open Go.Sort renaming grow->Tg
open Go.World renaming block_lt_of_cell?->SN, cell?->SS, cell?_of_block->UN, cell?_alloc_at->UM
open List renaming length_cons->SC, length_append->Sl, length_filter_le->UC, length_map->TL, drop_eq_getElem_cons->Tt, drop_eq_nil_of_le->Xa, mem_cons->SB, map_append->TY, getD_eq_getElem?_getD->SY, getElem?_eq_getElem->Tp, mem_singleton->TT, mem_append->Uy, mem_cons_self->SG, mem_cons_of_mem->SI, mem_filter->Ua, take_succ_eq_append_getElem->SQ, foldl_cons->U_
open Nat renaming le_add_right->Tk, le_trans->RV, lt_of_lt_of_le->Sn, zero_le->Sv, le_succ->Uk
open Option renaming some->A_, none->B_, getD_some->Sq
open Or renaming inl->RP, inr->RN
set_option linter.all false
set_option maxHeartbeats 4000000
set_option maxRecDepth 4000
namespace Go.Proofs.YtpodibeogglplaaGreatDoor
def dH(al:List Int->Int->Bool)(o:Ord):List Ord->MS->MS×Bool
 |[],s=>(s,E_)
 |x::T,s=>if s.q<=0 then(s,E_)else if x.kind=2 then dH al o T s else if wJ o x=G_ then(s,E_)else if al s.ts x.price=G_ then dH al o T (pF o x s)else(s,G_)
variable {al:List Int->Int->Bool} {o:Ord} {X:List Ord} {x:Ord} {T:List Ord} {w:C_} {b:Nat} {L:List Ord} {p s a d:Int} {v:D_} {j:Nat} {vs:Array D_} {t:TypeId} {w':C_} {B:Nat} {w1 w2:C_} {S:Nat->Prop} {bb k:Nat} {ps:List MemPlace} {n:Nat} {rs:List (Int×Int)} {now:Int} {xs:List Int} {m:Nat}
def ML{s:MS}(h:s.q<=0):∀X,dH al o X s=(s,E_)
 |[]=>rfl
 |_::_=>by unfold dH;rw[RF h]
def aYn{s:MS}(h:0<s.q)(hk:x.kind=2):dH al o (x::T) s=dH al o T s:=by
 rw[dH,RD o7,RF hk]
def aYm{s:MS}(hk:x.kind=2):dH al o (x::T) s=dH al o T s:=by
 by_cases h:s.q<=0
 ·rw[ML h,ML h]
 ·exact aYn o7 hk
def aYl{s:MS}(h:0<s.q)(hk:x.kind≠2)(a:wJ o x=G_):dH al o (x::T) s=(s,E_):=by
 rw[dH,RD o7,RD hk,RF a]
def aYo{s:MS}(h:0<s.q)(hk:x.kind≠2)(b:wJ o x=E_)(a:al s.ts x.price=E_):dH al o (x::T) s=(s,G_):=by
 rw[dH,RD o7,RD hk,RD (by rw[b];decide),RD (by rw[a];decide)]
def aYp{s:MS}(h:0<s.q)(hk:x.kind≠2)(b:wJ o x=E_)(a:al s.ts x.price=G_):dH al o (x::T) s=dH al o T (pF o x s):=by
 rw[dH,RD o7,RD hk,RD (by rw[b];decide),RF a]
def MN(al:List Int->Int->Bool)(o:Ord):∀(X:List Ord) (s:MS),(dH al o X s).1.fs.length<=s.fs.length+X.length/\(dH al o X s).1.ts.length<=s.ts.length+X.length
 |[],s=>⟨au,au⟩
 |x::T,s=>by
  have stay:s.fs.length<=s.fs.length+(x::T).length/\s.ts.length<=s.ts.length+(x::T).length:=⟨Tk _ _,Tk _ _⟩;unfold dH;split
  ·exact stay
  ·split
   ·have:=MN al o T s;rw[SC];omega
   ·split
    ·exact stay
    ·split
     ·have h:=MN al o T (pF o x s);have e1:(pF o x s).fs.length=s.fs.length+1:=by show(s.fs++[_]).length=_;rw[Sl];rfl
      have e2:(pF o x s).ts.length=s.ts.length+1:=by show(s.ts++[_]).length=_;rw[Sl];rfl
      rw[SC];omega
     ·exact stay
def ze(w:C_)(b:Nat)(o:Ord):Prop:=w.heap[b]? = A_ (R #[U G o.id,U G o.side,U G o.kind,U G o.price,U G o.ak] 155 (0,0))
def CP(w:C_)(b:Nat):Prop:=w.heap[b]? = A_ (R #[U G 0,U G 0,U G 0,U G 0,U G 0] 155 (0,0))
def boxed(w:C_)(b:Nat)(o:Ord):C_:=((((w.setCell ⟨b,0,B_⟩ (U G o.id)).setCell ⟨b,1,B_⟩ (U G o.side)).setCell ⟨b,2,B_⟩ (U G o.kind)).setCell ⟨b,3,B_⟩ (U G o.price)).setCell ⟨b,4,B_⟩ (U G o.ak)
def FJ(w:C_)(b:Nat)(o:Ord):Out (λj=>j=b) w (boxed w b o):=
 ((((bL w ⟨b,0,B_⟩ _).trans (bL _ ⟨b,1,B_⟩ _) (aK.refl _ _)).trans (bL _ ⟨b,2,B_⟩ _) (aK.refl _ _)).trans (bL _ ⟨b,3,B_⟩ _) (aK.refl _ _)).trans (bL _ ⟨b,4,B_⟩ _) (aK.refl _ _)
def Rj(o:Ord)(h:CP w b):ze (boxed w b o) b o:=
 bg (j:=4) _ (bg (j:=3) _ (bg (j:=2) _ (bg (j:=1) _ (bg (j:=0) _ h))))
def eD(o:Ord)(q:Int):Ord:=⟨o.id,o.side,o.kind,o.price,q⟩
def aEc(id n:Int)(L:List Ord):(bR id n L).length<=L.length:=by
 unfold bR;exact RV (UC _ _) (by rw[TL];exact au)
def aEd(a:x∈L):(bR x.id x.ak L).length<L.length:=by
 have h:((L.map (dO x.id x.ak)).filter λo=>decide (0<o.ak)).length<(L.map (dO x.id x.ak)).length:=by
  refine List.length_filter_lt_length_iff_exists.2 ⟨dO x.id x.ak x,List.mem_map_of_mem a,?_⟩;rw[aO4];show¬decide (0<x.ak - x.ak)=G_;simp
 rw[TL]at h;exact h
def aUs{s:FS}(h:pV p s)(g:0<s.q)(i:0<(jX p s).q):(jX p s).L.length<s.L.length:=by
 obtain⟨⟨x,T,y,U,_,_,d,e,f,_,b,_,_,j,k,_,c,_,_,_⟩,_⟩:=Dv h g;have e1:dD s=min s.q (min x.ak y.ak):=by unfold dD;rw[d,e]
 have e2:(jX p s).q=s.q - dD s:=rfl;rw[c];have a:dD s=x.ak\/dD s=y.ak:=o7;rcases a with a|a
 ·rw[a];exact Nat.lt_of_le_of_lt (aEc _ _ _) (aEd f)
 ·rw[a]at b⊢;exact Sn (aEd b) (aEc _ _ _)
def Gm{p:Int}{s:FS}(h:pV p s):∀k,(∀j,j<k+1->0<(fB p s j).q)->k+(fB p s k).L.length<=s.L.length
 |0,_=>by show 0+s.L.length<=s.L.length;omega
 |k+1,hq=>by
  have b:=Gm h k (λj a=>hq j o7);have h1:=aUs (Ls h k (λj a=>hq j o7)) (hq k o7) (hq (k+1) o7);have e:fB p s (k+1)=jX p (fB p s k):=rfl;rw[e];omega
section
set_option linter.unusedSimpArgs false
def Dw(p:Int):Bool:=p == 2 || p == 4 || p == 5
def kX(p:Int):Bool:=p == 1 || p == 2 || p == 4 || p == 5
def uE(p k:Int):Bool:=(k == 1&& (kX p || p == 3)) || (k == 4&& (kX p || p == 3)) || (k == 2&& (p == 3 || Dw p)) || (k == 3&& kX p)
def Jz{a b:Bool}(h:a=b):Ze (.bool a)=Y (.bool b):=by rw[h]
def bHk(p:Int)(w:C_):Sj prog 146 #[U G p] w λe w'=>e=Y (.bool (Dw p))/\w'=w:=by
 go_enter func146,ntmps146;go_wp2
 all_goals(go_ret;refine⟨Jz ?_,rfl⟩;(first|rfl|(rw[Vm];simp only[uE,kX,Dw,XD,SV,beq_iff_eq,RG,ne_eq,decide_eq_true_eq,true_iff,SE,false_iff]at *;omega)))
def Pe(p:Int)(w:C_):Sj prog 111 #[U G p] w λe w'=>e=Y (.bool (kX p))/\w'=w:=by
 go_enter func111,ntmps111;go_wp2
 all_goals(go_ret;refine⟨Jz ?_,rfl⟩;(first|rfl|(rw[Vm];simp only[uE,kX,Dw,XD,SV,beq_iff_eq,RG,ne_eq,decide_eq_true_eq,true_iff,SE,false_iff]at *;omega)))
def bHl(p k:Int)(w:C_):Sj prog 186 #[U G p,U G k] w λe w'=>e=Y (.bool (uE p k))/\w'=w:=by
 go_enter func186,ntmps186;go_wp2_with (first|(go_at_call 111;refine(Pe _ _).mono ?_;rintro e w1 ⟨rfl,rfl⟩)|(go_at_call 146;refine(bHk _ _).mono ?_;rintro e w1 ⟨rfl,rfl⟩))
 all_goals(go_ret;refine⟨Jz ?_,rfl⟩;(first|rfl|(rw[Vm];simp only[uE,kX,Dw,XD,SV,beq_iff_eq,RG,ne_eq,decide_eq_true_eq,true_iff,SE,false_iff]at *;omega)))
end
def je(p s:Int):Bool:=fP 1 1000000 p&& fP 0 10000 s
def iB(p s:Int):Int:=if je p s=G_ then max 1 (p - p*s / 10000)else 0
def iA(p s:Int):Int:=if je p s=G_ then min 1000000 (p+p*s / 10000)else 0
def AY(p s:Int):Int:=if je p s=G_ then 0 else 2
def aY7(hp:1<=p/\p<=1000000)(a:0<=s/\s<=10000):0<=p*s/\p*s<=10000000000:=by
 have h1:0<=p*s:=Int.mul_nonneg o7 a.1;have h2:p*s<=1000000*10000:=Int.mul_le_mul hp.2 a.2 a.1 o7;exact⟨h1,o7⟩
def bDu{b c:Int}(h1:a=c)(h2:b=d):Ze (.tuple #[U G a,U G b,v])=Y (.tuple #[U G c,U G d,v]):=by rw[h1,h2]
def aMi(h:je p s=G_):iB p s=max 1 (p - p*s / 10000):=RF h
def aMg(h:je p s=G_):iA p s=min 1000000 (p+p*s / 10000):=RF h
def aMh(h:je p s=E_):iB p s=0:=RD (by rw[h];decide)
def aMf(h:je p s=E_):iA p s=0:=RD (by rw[h];decide)
def aKv(p s:Int)(w:C_)(hp:1<=p/\p<=1000000)(a:0<=s/\s<=10000):
  Sj prog 88 #[U G p,U G s] w λe w'=>e=Y (.tuple #[U G (max 1 (p - p*s / 10000)),U G (min 1000000 (p+p*s / 10000)),.nilIface])/\Sd w.heap.size w w':=by
 have b:=aY7 hp a;go_enter func88,ntmps88;go_wp2_with fail;refine(Ep p _ _ (by simp[go_sem])).mono ?_;rintro e w' ⟨rfl,rfl⟩;rw[DL hp];go_wp2_with fail;refine(PK 0 10000 s _ _ (by simp[go_sem])).mono ?_;rintro e w' ⟨rfl,rfl⟩;rw[DL a];go_wp2_with fail
 all_goals
  go_ret3;exact⟨bDu o7 o7,by go_grown⟩
def aKu(p s:Int)(w:C_)(h:je p s=E_):
  Sj prog 88 #[U G p,U G s] w λe w'=>e=Y (.tuple #[U G 0,U G 0,.iface 30 (U G 2)])/\Sd w.heap.size w w':=by
 cases hp:fP 1 1000000 p with
 |false=>
  have a:=ah hp;clear hp h;go_enter func88,ntmps88;go_wp2_with fail;refine(Ep p _ _ (by simp[go_sem])).mono ?_;rintro e w' ⟨rfl,rfl⟩;rw[a.out];go_wp2_with fail;go_ret3;exact⟨rfl,by go_grown⟩
 |true=>
  have b:fP 0 10000 s=E_:=by unfold je at h;rw[hp]at h;simpa using h
  have a:=ah hp;have c:=ah b;clear hp b h;go_enter func88,ntmps88;go_wp2_with fail;refine(Ep p _ _ (by simp[go_sem])).mono ?_;rintro e w' ⟨rfl,rfl⟩;rw[a.out];go_wp2_with fail;refine(PK 0 10000 s _ _ (by simp[go_sem])).mono ?_;rintro e w' ⟨rfl,rfl⟩;rw[c.out];go_wp2_with fail;go_ret3;exact⟨rfl,by go_grown⟩
def aMj(h:je p s=G_):(1<=p/\p<=1000000)/\(0<=s/\s<=10000):=by
 unfold je at h;rw[SV]at h;exact⟨tN h.1,tN h.2⟩
def aHi(p:Int):iX p 1=fP 1 1000000 p:=by
 unfold iX;rw[DL (show(1:Int)<=1/\(1:Int)<=1000000 by omega),Bool.and_true]
def mV(h:w.heap[b]? = A_ (R vs t (0,0)))(a:vs[j]? = A_ v):w.cell? ⟨b,j,B_⟩=A_ v:=(cell_of_row w b j vs t (0,0) h).trans a
def Kr(h:w.heap[b]? = A_ (R vs t (0,0))):w.frozen? ⟨b,j,B_⟩=E_:=frozen_of_row w b j vs t h
def Ku(u:D_)(h:w.heap[b]? = A_ (R vs t (0,0))):(w.setCell ⟨b,j,B_⟩ u).heap[b]? = A_ (R (vs.setIfInBounds j u) t (0,0)):=heap_setCell_same w b j vs t u h
def aNa{o:Obj}(h:w.heap[b]? = A_ o)(c:Sd B w w')(a:w.heap.size<=B):w'.heap[b]? = A_ o:=(c.block b (Sn (SK h) a)).trans h
def Kt(w:C_)(a:J_)(u:D_):Out (λj=>j=a.block) w (w.setCell a u):=⟨rfl,rfl,rfl,by simp,λj _ b=>Below.heap_setCell _ _ _ _ (λe=>b e)⟩
def uQ(w:C_)(o:Obj):Sd w.heap.size w (w.alloc o):=(RS _ _).alloc au o
def wu(h:Sd w.heap.size w w1)(h1:Sd w1.heap.size w1 w2):Sd w.heap.size w w2:=h.trans (h1.mono h.size)
def CZ(h:Out S w w1)(h1:Out S w1 w2):Out S w w2:=h.trans h1 (aK.refl _ _)
def dU(w:C_)(bb:Nat)(s d a l:Int):Prop:=w.heap[bb]? = A_ (R #[U G s,U G d,U G a,U G l] 191 (0,0))
def dU.below{l:Int}(h:dU w bb s d a l)(b:Sd w.heap.size w w'):dU w' bb s d a l:=aNa h b au
def oM(p s:Int):D_:=if je p s=G_ then .nilIface else .iface 30 (U G 2)
def za(p s:Int)(w:C_):
  Sj prog 88 #[U G p,U G s] w λe w'=>e=Y (.tuple #[U G (iB p s),U G (iA p s),oM p s])/\Sd w.heap.size w w':=by
 cases h:je p s with
 |true=>
  obtain⟨hp,a⟩:=aMj h;exact(aKv p s w hp a).mono λ_ _ ⟨he,hb⟩=>⟨by rw[he,aMi h,aMg h,show oM p s=.nilIface from RF h],hb⟩
 |false=>exact(aKu p s w h).mono λ_ _ ⟨he,hb⟩=>⟨by rw[he,aMh h,aMf h,show oM p s=.iface 30 (U G 2) from RD (by rw[h];decide)],hb⟩
def QZ(bb:Nat)(s d a l:Int)(w:C_)(h:dU w bb s d a l):
  Sj prog 233 #[E (A_ ⟨bb,0,B_⟩),U G 0] w λe w'=>e=Y (.tuple #[U G (iB a s),U G (iA a s)])/\Sd w.heap.size w w':=by
 have m:=TJ (mV (j:=0) h rfl);have k2:=TJ (mV (j:=2) h rfl);have k:∀c os,Sj prog 88 #[U G a,U G s] (Tg (Vl w c) os) λe i=>e=Y (.tuple #[U G (iB a s),U G (iA a s),oM a s])/\∃p:V_,i=Tg (Vl w p.d) p.os:=λc os=>VA (za a s _)
 clear h;go_enter func233,ntmps233;go_wp2_with fail;refine TU k7 k7 ?_
 repeat(go_big_quiet_step (exact k _ _))
 refine Wq ?_;intro _ f;obtain⟨⟨c,g⟩,b⟩:=f;subst b;go_wp2;go_ret2;exact⟨rfl,Uh w c g⟩
def aM1(bb:Nat)(s d a l:Int)(w:C_)(h:dU w bb s d a l):
  Sj prog 233 #[E (A_ ⟨bb,0,B_⟩),U G 1] w λe w'=>e=Y (.tuple #[U G (iB l d),U G (iA l d)])/\Sd w.heap.size w w':=by
 have k1:=TJ (mV (j:=1) h rfl);have k3:=TJ (mV (j:=3) h rfl);have k:∀c os,Sj prog 88 #[U G l,U G d] (Tg (Vl w c) os) λe i=>e=Y (.tuple #[U G (iB l d),U G (iA l d),oM l d])/\∃p:V_,i=Tg (Vl w p.d) p.os:=λc os=>VA (za l d _)
 clear h;go_enter func233,ntmps233;go_wp2_with fail;refine TU k7 k7 ?_
 repeat(go_big_quiet_step (exact k _ _))
 refine Wq ?_;intro _ f;obtain⟨⟨c,g⟩,b⟩:=f;subst b;go_wp2;go_ret2;exact⟨rfl,Uh w c g⟩
def tY(s d p:Int):Bool:=je p s&& je p d
def Kl(h:je p s=G_):oM p s=.nilIface:=RF h
def QG(h:je p s=E_):oM p s=.iface 30 (U G 2):=RD (by rw[h];decide)
def aM6(s d p:Int)(w:C_)(h:tY s d p=E_):
  Sj prog 96 #[U G s,U G d,U G p] w λe w'=>e=Y (.tuple #[E B_,.iface 30 (U G 2)])/\Sd w.heap.size w w':=by
 have B:=ah h;clear h;go_enter func96,ntmps96;go_wp2_with fail;have i:=uQ w (R #[U G s,U G d,U G p,U G p] 191);have l:dU (w.alloc (R #[U G s,U G d,U G p,U G p] 191)) w.heap.size s d p p:=RU w _;generalize w.alloc (R #[U G s,U G d,U G p,U G p] 191)=w0 at i l⊢;have t:=ah i;have u:=ah l;clear i l;go_loopw [21] (λv wr=>∃k:Nat,k<=1/\v=U G k/\Sd w.heap.size w wr/\dU wr w.heap.size s d p p/\(k=1->je p s=G_)) (λv _=>2 - (intOf v).toNat)
 case atStart=>exact⟨0,o7,rfl,t.out,u.out,λh=>absurd h d7⟩
 case round=>
  obtain⟨k,hk,rfl,y,o,z⟩:=hrel;have D:=ah z;have t:=ah y;have u:=ah o;have A:=TJ (mV (j:=0) o rfl);have k1:=TJ (mV (j:=1) o rfl);have k2:=TJ (mV (j:=2) o rfl);have k3:=TJ (mV (j:=3) o rfl);clear z y o;have r:k=0\/k=1:=o7;rcases r with rfl|rfl
  ·have q:∀b os,Sj prog 88 #[U G p,U G s] (Tg (Vl wr b) os) λe n=>e=Y (.tuple #[U G (iB p s),U G (iA p s),oM p s])/\∃p:V_,n=Tg (Vl wr p.d) p.os:=λb os=>VA (za p s _)
   go_wp2_with fail;refine TU k7 k7 ?_
   repeat(go_big_quiet_step (exact q _ _))
   refine Wq ?_;intro _ m;obtain⟨⟨b,f⟩,c⟩:=m;subst c;have a:=Uh wr b f;generalize Tg (Vl wr b) f=w5 at a⊢;have g:=ah (wu t.out a);have x:=ah (u.out.below a);clear a A k1 k2 k3 q;cases ho:je p s with
   |true=>
    have C:=ah ho;rw[Kl ho];clear ho;go_wp2;go_roundw
    case rel=>exact⟨1,o7,rfl,g.out,x.out,λ_=>C.out⟩
    case measure=>simp[intOf]
   |false=>
    rw[QG ho];clear ho;go_wp2;go_ret2;exact⟨rfl,g.out⟩
  ·have q:∀b os,Sj prog 88 #[U G p,U G d] (Tg (Vl wr b) os) λe n=>e=Y (.tuple #[U G (iB p d),U G (iA p d),oM p d])/\∃p:V_,n=Tg (Vl wr p.d) p.os:=λb os=>VA (za p d _)
   go_wp2_with fail;refine TU k7 k7 ?_
   repeat(go_big_quiet_step (exact q _ _))
   refine Wq ?_;intro _ m;obtain⟨⟨b,f⟩,c⟩:=m;subst c;have a:=Uh wr b f;generalize Tg (Vl wr b) f=w5 at a⊢;have g:=ah (wu t.out a);clear a A k1 k2 k3 q
   have ho:je p d=E_:=by
    have h:=B.out;unfold tY at h;rw[D.out (by trivial)]at h
    simpa using h
   rw[QG ho];clear ho;go_wp2;go_ret2;exact⟨rfl,g.out⟩
def Rb(s d p:Int)(w:C_)(h:tY s d p=G_):
  Sj prog 96 #[U G s,U G d,U G p] w λe w'=>e=Y (.tuple #[E (A_ ⟨w.heap.size,0,B_⟩),.nilIface])/\Sd w.heap.size w w'/\dU w' w.heap.size s d p p:=by
 have h2:je p s=G_/\je p d=G_:=by unfold tY at h;simpa using h
 have z:=ah h2;clear h2;clear h;go_enter func96,ntmps96;go_wp2_with fail;have l:=uQ w (R #[U G s,U G d,U G p,U G p] 191);have m:dU (w.alloc (R #[U G s,U G d,U G p,U G p] 191)) w.heap.size s d p p:=RU w _;generalize w.alloc (R #[U G s,U G d,U G p,U G p] 191)=w0 at l m⊢;have t:=ah l;have r:=ah m;clear l m;go_loopw [21] (λv wr=>∃k:Nat,k<=2/\v=U G k/\Sd w.heap.size w wr/\dU wr w.heap.size s d p p) (λv _=>2 - (intOf v).toNat)
 case atStart=>exact⟨0,o7,rfl,t.out,r.out⟩
 case round=>
  obtain⟨k,hk,rfl,A,q⟩:=hrel;have t:=ah A;have r:=ah q;have y:=TJ (mV (j:=0) q rfl);have k1:=TJ (mV (j:=1) q rfl);have k2:=TJ (mV (j:=2) q rfl);have k3:=TJ (mV (j:=3) q rfl);clear A q;have x:k=0\/k=1\/k=2:=o7;rcases x with rfl|rfl|rfl
  ·have u:∀b os,Sj prog 88 #[U G p,U G s] (Tg (Vl wr b) os) λe o=>e=Y (.tuple #[U G (iB p s),U G (iA p s),oM p s])/\∃p:V_,o=Tg (Vl wr p.d) p.os:=λb os=>VA (za p s _)
   go_wp2_with fail;refine TU k7 k7 ?_
   repeat(go_big_quiet_step (exact u _ _))
   refine Wq ?_;intro _ n;obtain⟨⟨b,f⟩,c⟩:=n;subst c;have a:=Uh wr b f;generalize Tg (Vl wr b) f=w5 at a⊢;have i:=ah (wu t.out a);have g:=ah (r.out.below a);clear a y k1 k2 k3 u;rw[Kl z.out.1];go_wp2;go_roundw
   case rel=>exact⟨1,o7,rfl,i.out,g.out⟩
   case measure=>simp[intOf]
  ·have u:∀b os,Sj prog 88 #[U G p,U G d] (Tg (Vl wr b) os) λe o=>e=Y (.tuple #[U G (iB p d),U G (iA p d),oM p d])/\∃p:V_,o=Tg (Vl wr p.d) p.os:=λb os=>VA (za p d _)
   go_wp2_with fail;refine TU k7 k7 ?_
   repeat(go_big_quiet_step (exact u _ _))
   refine Wq ?_;intro _ n;obtain⟨⟨b,f⟩,c⟩:=n;subst c;have a:=Uh wr b f;generalize Tg (Vl wr b) f=w5 at a⊢;have i:=ah (wu t.out a);have g:=ah (r.out.below a);clear a y k1 k2 k3 u;rw[Kl z.out.2];go_wp2;go_roundw
   case rel=>exact⟨2,o7,rfl,i.out,g.out⟩
   case measure=>simp[intOf]
  ·clear y k1 k2 k3;go_wp2;go_ret2;exact⟨rfl,t.out,r.out⟩
def aM0(bb:Nat)(s d a l:Int)(w:C_)(h:dU w bb s d a l):
  Sj prog 116 #[E (A_ ⟨bb,0,B_⟩)] w λe w'=>e=Y (U G a)/\Sd w.heap.size w w':=by
 have c:=mV (j:=2) h rfl;clear h;go_enter func116,ntmps116;go_wp2;go_ret;exact⟨rfl,RS _ _⟩
def Ra(bb:Nat)(s d a l:Int)(w:C_)(h:dU w bb s d a l):
  Sj prog 112 #[E (A_ ⟨bb,0,B_⟩)] w λe w'=>e=Y (U G l)/\Sd w.heap.size w w':=by
 have c:=mV (j:=3) h rfl;clear h;go_enter func112,ntmps112;go_wp2;go_ret;exact⟨rfl,RS _ _⟩
def nM(s a p:Int):Bool:=fP (iB a s) (iA a s) p
def vU(s d a l p:Int):Bool:=nM s a p&& nM d l p
def aM8(bb g:Nat)(s d a l p:Int)(w:C_)(h:dU w bb s d a l)(o:w.cell? ⟨g,0,B_⟩=A_ (U G 0)):
  Sj prog 197 #[E (A_ ⟨bb,0,B_⟩),U G p,J (A_ ⟨g,0,B_⟩) 1 1] w λe w'=>e=Y (.bool (nM s a p))/\Sd w.heap.size w w':=by
 have r:=ah h;have m:=ah o;clear h o;go_enter func197,ntmps197;go_wp2;go_loopw [13] (λv wr=>∃k:Nat,k<=1/\v=U G k/\Sd w.heap.size w wr/\(k=1->nM s a p=G_)) (λv _=>1 - (intOf v).toNat)
 case atStart=>exact⟨0,o7,rfl,RS _ _,λh=>absurd h d7⟩
 case round=>
  obtain⟨k,hk,rfl,n,q⟩:=hrel;have i:=ah n;have t:=ah q;clear n q;have f:k=0\/k=1:=o7;rcases f with rfl|rfl
  ·have u:=(i.out.cell (p:=⟨g,0,B_⟩) (SN w _ m.out)).trans m.out;go_wp2_with fail;refine(QZ bb s d a l _ (r.out.below i.out)).mono ?_;rintro e w1 ⟨rfl,c⟩;have b:=ah (wu i.out c);clear c u;cases hc:nM s a p with
   |true=>
    obtain⟨h1,h2⟩:=tN (lo:=iB a s) (hi:=iA a s) (z:=p) hc;have j:=ah hc;clear hc;go_wp2;go_roundw
    case rel=>exact⟨1,o7,rfl,b.out,λ_=>j.out⟩
    case measure=>simp[intOf]
   |false=>
    have h1:=Me (lo:=iB a s) (hi:=iA a s) (z:=p) hc;have j:=ah hc;clear hc
    by_cases h2:p<iB a s
    ·go_wp2;go_ret;exact⟨by rw[j.out];rfl,b.out⟩
    ·have h3:iA a s<p:=o7;go_wp2;go_ret;exact⟨by rw[j.out];rfl,b.out⟩
  ·go_wp2;go_ret;exact⟨by rw[t.out (by trivial)];rfl,i.out⟩
def aM9(bb g:Nat)(s d a l p:Int)(w:C_)(h:dU w bb s d a l)(A:w.cell? ⟨g,0,B_⟩=A_ (U G 0))(n:w.cell? ⟨g,1,B_⟩=A_ (U G 1)):
  Sj prog 197 #[E (A_ ⟨bb,0,B_⟩),U G p,J (A_ ⟨g,0,B_⟩) 2 2] w λe w'=>e=Y (.bool (vU s d a l p))/\Sd w.heap.size w w':=by
 have t:=ah h;have u:=ah A;have m:=ah n;clear h A n;go_enter func197,ntmps197;go_wp2;go_loopw [13] (λv wr=>∃k:Nat,k<=2/\v=U G k/\Sd w.heap.size w wr/\(1<=k->nM s a p=G_)/\(k=2->nM d l p=G_)) (λv _=>2 - (intOf v).toNat)
 case atStart=>exact⟨0,o7,rfl,RS _ _,λh=>absurd h d7,λh=>absurd h d7⟩
 case round=>
  obtain⟨k,hk,rfl,y,B,q⟩:=hrel;have i:=ah y;have x:=ah B;have r:=ah q;clear y B q;have o:k=0\/k=1\/k=2:=o7;rcases o with rfl|rfl|rfl
  ·have C:=(i.out.cell (p:=⟨g,0,B_⟩) (SN w _ u.out)).trans u.out;go_wp2_with fail;refine(QZ bb s d a l _ (t.out.below i.out)).mono ?_;rintro e w1 ⟨rfl,f⟩;have b:=ah (wu i.out f);clear f C;cases hc:nM s a p with
   |true=>
    obtain⟨h1,h2⟩:=tN (lo:=iB a s) (hi:=iA a s) (z:=p) hc;have c:=ah hc;clear hc;go_wp2;go_roundw
    case rel=>exact⟨1,o7,rfl,b.out,λ_=>c.out,λh=>absurd h d7⟩
    case measure=>simp[intOf]
   |false=>
    have h1:=Me (lo:=iB a s) (hi:=iA a s) (z:=p) hc;have c:Hid (vU s d a l p=E_):=by unfold vU;rw[hc];rfl
    clear hc
    by_cases h2:p<iB a s
    ·go_wp2;go_ret;exact⟨by rw[c.out];rfl,b.out⟩
    ·have h3:iA a s<p:=o7;go_wp2;go_ret;exact⟨by rw[c.out];rfl,b.out⟩
  ·have D:=(i.out.cell (p:=⟨g,1,B_⟩) (SN w _ m.out)).trans m.out;have j:Hid (nM s a p=G_):=x.out au;go_wp2_with fail;refine(aM1 bb s d a l _ (t.out.below i.out)).mono ?_;rintro e w1 ⟨rfl,f⟩;have b:=ah (wu i.out f);clear f D;cases hc:nM d l p with
   |true=>
    obtain⟨h1,h2⟩:=tN (lo:=iB l d) (hi:=iA l d) (z:=p) hc;have c:=ah hc;clear hc;go_wp2;go_roundw
    case rel=>exact⟨2,o7,rfl,b.out,λ_=>j.out,λ_=>c.out⟩
    case measure=>simp[intOf]
   |false=>
    have h1:=Me (lo:=iB l d) (hi:=iA l d) (z:=p) hc;have c:Hid (vU s d a l p=E_):=by unfold vU;rw[j.out,hc];rfl
    clear hc
    by_cases h2:p<iB l d
    ·go_wp2;go_ret;exact⟨by rw[c.out];rfl,b.out⟩
    ·have h3:iA l d<p:=o7;go_wp2;go_ret;exact⟨by rw[c.out];rfl,b.out⟩
  ·have c:Hid (vU s d a l p=G_):=by unfold vU;rw[x.out d7,r.out rfl];rfl
   go_wp2;go_ret;exact⟨by rw[c.out];rfl,i.out⟩
def aM2(bb:Nat)(s d a l p:Int)(w:C_)(h:dU w bb s d a l):
  Sj prog 144 #[E (A_ ⟨bb,0,B_⟩),U G p] w λe w'=>e=Y (.bool (nM s a p))/\Sd w.heap.size w w':=by
 have c:=ah h;clear h;go_enter func144,ntmps144;go_wp2_with fail;refine(aM8 bb _ s d a l p _ (c.out.below (uQ w _)) (by simp[go_sem])).mono ?_;rintro e w' ⟨rfl,b⟩;have f:Hid (Sd w.heap.size w w'):=wu (uQ w _) b;clear b;go_wp2;go_ret;exact⟨rfl,f.out⟩
def aMz(bb:Nat)(s d a l p:Int)(w:C_)(h:dU w bb s d a l):
  Sj prog 189 #[E (A_ ⟨bb,0,B_⟩),U G p] w λe w'=>e=Y (.bool (vU s d a l p))/\Sd w.heap.size w w':=by
 have c:=ah h;clear h;go_enter func189,ntmps189;go_wp2_with fail;refine(aM9 bb _ s d a l p _ (c.out.below (uQ w _)) (by simp[go_sem]) (by simp[go_sem])).mono ?_;rintro e w' ⟨rfl,b⟩;have f:Hid (Sd w.heap.size w w'):=wu (uQ w _) b;clear b;go_wp2;go_ret;exact⟨rfl,f.out⟩
def hasB:List Int->Int->Bool
 |[],_=>E_
 |z::r,x=>x == z || hasB r x
def aVi{x:Int}{a:List Int}(h:k<a.length)(b:(x == a[k])=E_):hasB (a.drop (k+1)) x=hasB (a.drop k) x:=by
 rw[Tt h];simp[hasB,b]
def aVh{x:Int}{a:List Int}(h:k<a.length)(b:(x == a[k])=G_):hasB (a.drop k) x=G_:=by
 rw[Tt h];simp[hasB,b]
def aVg{x:Int}{a:List Int}(h:¬k<a.length):hasB (a.drop k) x=E_:=by
 rw[Xa o7];rfl
def qh(p:Int):List Int:=if p=1 then [2]else if p=2 then [3]else if p=3 then [5,7]else if p=5 then [7]else []
def vH(zs:List Int)(a0 a1 p1:Int):Int:=if hasB zs p1=G_ then(if a1<=a0 then 10 else if 1000000<a1 then 2 else 0)else 1
def Db{a:J_}(h:w.cell? a=A_ v):a.block<w.heap.size:=by
 rcases Nat.lt_or_ge a.block w.heap.size with b|b
 ·exact b
 ·simp[SS,Array.getElem?_eq_none b]at h
def FK{b:Int}(h:a=b):Ze (U G a)=Y (U G b):=by rw[h]
def aNn{a b:Bool}(h:a=b):Ze (.bool a)=Y (.bool b):=by rw[h]
def xK(w:C_)(v:D_)(zs:List Int):Prop:=
 (zs=[]/\v=J B_ 0 0)\/∃b:Nat,v=J (A_ ⟨b,0,B_⟩) zs.length zs.length/\zs.length<=1000/\(∀j,j<zs.length->w.cell? ⟨b,j,B_⟩=A_ (U G (zs.getD j 0)))
def xK.below{zs:List Int}(h:xK w v zs)(e:Sd B w w')(d:w.heap.size<=B):xK w' v zs:=by
 rcases h with h|⟨b,h1,h2,h3⟩
 ·exact RP h
 ·exact RN ⟨b,h1,h2,λj c=>(e.cell (p:=⟨b,j,B_⟩) (Sn (Db (a:=⟨b,j,B_⟩) (h3 j c)) d)).trans (h3 j c)⟩
def aVz(x:Int)(b:Nat)(a:List Int)(w:C_)(f:a.length<=1000)(l:∀j,j<a.length->w.cell? ⟨b,j,B_⟩=A_ (U G (a.getD j 0))):
  Sj prog 214 #[J (A_ ⟨b,0,B_⟩) a.length a.length,U G x] w λe w'=>(∃r:Int,e=Y (U G r)/\decide (0<=r)=hasB a x)/\w'=w:=by
 go_enter func214,ntmps214;go_wp2;go_loop [5,8] (λ_ i=>∃k:Nat,k<=a.length/\i=U G k/\hasB (a.drop k) x=hasB a x) (λ_ i=>a.length - (intOf i).toNat)
 case atStart=>exact⟨0,Sv _,rfl,rfl⟩
 case round=>
  obtain⟨k,hk,rfl,g⟩:=hrel;have c:=ah g;clear g;have d:k<a.length->w.cell? ⟨b,k,B_⟩=A_ (U G (a.getD k 0)):=λh=>l k h
  go_wp2
  ·go_ret;exact⟨⟨_,rfl,by rw[<-c.out,aVh a7 a7];simp⟩,rfl⟩
  ·go_round
   case rel=>exact⟨k+1,o7,by go_num,by rw[<-c.out];exact aVi a7 a7⟩
   case measure=>simp[intOf];omega
  ·go_ret;exact⟨⟨_,rfl,by rw[<-c.out,aVg a7];rfl⟩,rfl⟩
def aVy(x:Int)(w:C_):Sj prog 214 #[J B_ 0 0,U G x] w λe w'=>(∃r:Int,e=Y (U G r)/\decide (0<=r)=hasB [] x)/\w'=w:=by
 go_enter func214,ntmps214;go_wp2_with fail;refine wp_loop_rounds 1 ?_;rw[rounds_succ];go_wp2;go_ret;exact⟨⟨_,rfl,rfl⟩,rfl⟩
def aVx(x:Int)(v:D_)(a:List Int)(w:C_)(h:xK w v a):
  Sj prog 214 #[v,U G x] w λe w'=>(∃r:Int,e=Y (U G r)/\decide (0<=r)=hasB a x)/\w'=w:=by
 rcases h with⟨rfl,rfl⟩|⟨b,rfl,h1,h2⟩
 ·exact aVy x w
 ·exact aVz x b a w h1 h2
def aOk(x:Int)(v:D_)(a:List Int)(w:C_)(h:xK w v a):
  Sj prog 179 #[v,U G x] w λe w'=>e=Y (.bool (hasB a x))/\w'=w:=by
 have c:=ah h;clear h;go_enter func179,ntmps179;go_wp2_with fail;refine(aVx x v a _ c.out).mono ?_;rintro e w1 ⟨⟨r,rfl,b⟩,f⟩;subst f;have d:=ah b;clear b;go_wp2;go_ret;exact⟨aNn d.out,rfl⟩
def bI4(v:D_)(b:List Int)(c p0 a1 a:Int)(w:C_)(h:xK w v b):
  Sj prog 130 #[v,.agg #[U G c,U G p0],.agg #[U G a1,U G a]] w λe w'=>e=Y (U G (vH b c a1 a))/\Sd w.heap.size w w':=by
 have d:=ah h;clear h;go_enter func130,ntmps130;go_wp2_with fail;refine(aOk a v b _ (d.out.below (B:=w.heap.size) (by go_grown) au)).mono ?_;rintro e w1 ⟨rfl,f⟩;subst f;cases hh:hasB b a with
 |false=>
  go_wp2;go_ret;exact⟨FK (by unfold vH;rw[hh];rfl),by go_grown⟩
 |true=>
  go_wp2
  all_goals go_ret
  ·exact⟨FK (by unfold vH;rw[RF hh,RF a7]),by go_grown⟩
  ·exact⟨FK (by unfold vH;rw[RF hh,RD o7,RF a7]),by go_grown⟩
  ·exact⟨FK (by unfold vH;rw[RF hh,RD o7,RD o7]),by go_grown⟩
def aDv:Maps.Keyed prog 3:=Maps.int_keyed underlying3
def aDw(h:(Tv .i64 a).wf=G_):keyOf prog 3 (.int .i64 a)=A_ (.int .i64 a):=Maps.keyOf_int_mk underlying3 h
def bJb(w:C_):(zeroValue 99).run prog w=.ok (J B_ 0 0) w:=k7
def wL(v:D_):Option (DataW Unit×List MemPlace):=
 match v with
 |J B_ 0 0=>A_ (.nil,[])
 | .slice (A_ ⟨b,0,B_⟩) n c=>A_ (.agg [.lit (.int .i64 b),.lit (.int .i64 n),.lit (.int .i64 c)],[])
 |_=>B_
def qR(b n:Nat):DataW Unit:=.agg [.lit (.int .i64 b),.lit (.int .i64 n),.lit (.int .i64 n)]
def aUh(b n:Nat):wL (J (A_ ⟨b,0,B_⟩) n n)=A_ (qR b n,[]):=rfl
def aUg(h:wL v=A_ (.nil,ps)):v=.slice B_ 0 0:=by
 unfold wL at h;split at h
 ·rfl
 ·simp at h
 ·simp at h
def Gq(h:wL v=A_ (qR b n,ps)):v=.slice (A_ ⟨b,0,B_⟩) n n:=by
 unfold wL at h;split at h
 ·simp[qR]at h
 ·simp[qR]at h;simp;omega
 ·simp at h
def LC(b1 b2 b3 b4:Nat):DataW Unit:=((((DataW.map []).put (.int .i64 1) (qR b1 1)).put (.int .i64 2) (qR b2 1)).put (.int .i64 3) (qR b3 2)).put (.int .i64 5) (qR b4 1)
def aUf(f g i j:Nat)(c:Int):(LC f g i j).atKey (.int .i64 c) .nil=if c=1 then qR f 1 else if c=2 then qR g 1 else if c=3 then qR i 2 else if c=5 then qR j 1 else .nil:=by
 have ne:∀a b:Int,a≠b->(Tv .i64 a)≠Tv .i64 b:=λa b h e=>h (by injection e)
 have wf:∀a:Int,WideAt.IsKeyLit (Tv .i64 a):=λa=>trivial
 unfold LC
 by_cases d:c=5
 ·subst d;exact(Ww ⟨_,rfl⟩ (wf _) _ _).trans rfl
 rw[Wm (ne _ _ d)]
 by_cases h3:c=3
 ·subst h3;exact(Ww ⟨_,rfl⟩ (wf _) _ _).trans rfl
 rw[Wm (ne _ _ h3)]
 by_cases h2:c=2
 ·subst h2;exact(Ww ⟨_,rfl⟩ (wf _) _ _).trans rfl
 rw[Wm (ne _ _ h2)]
 by_cases h1:c=1
 ·subst h1;exact(Ww ⟨_,rfl⟩ (wf _) _ _).trans rfl
 rw[Wm (ne _ _ h1),RD h1,RD h2,RD h3,RD d];rfl
def xJ(w:C_)(B:Nat):Prop:=
 ∃b1 b2 b3 b4:Nat,w.ownsMap prog 3 wL B 4 (LC b1 b2 b3 b4)/\w.cell? ⟨b1,0,B_⟩=A_ (U G 2)/\w.cell? ⟨b2,0,B_⟩=A_ (U G 3)/\w.cell? ⟨b3,0,B_⟩=A_ (U G 5)/\w.cell? ⟨b3,1,B_⟩=A_ (U G 7)/\w.cell? ⟨b4,0,B_⟩=A_ (U G 7)
def xJ.below(h:xJ w B)(d:Sd n w w')(hn:w.heap.size<=n):xJ w' B:=by
 obtain⟨e,f,g,i,ho,k,l,m,c4,o⟩:=h;have s:=ho.lt;obtain⟨es,c,e1,e2,q,r⟩:=ho
 have keep:∀(b j:Nat) (v:D_),w.cell? ⟨b,j,B_⟩=A_ v->w'.cell? ⟨b,j,B_⟩=A_ v:=λb j v hv=>
  (d.cell (p:=⟨b,j,B_⟩) (Sn (Db (a:=⟨b,j,B_⟩) hv) hn)).trans hv
 exact⟨e,f,g,i,⟨es,c,(d.block B (Sn s hn)).trans e1,e2,q,r⟩,keep _ _ _ k,keep _ _ _ l,keep _ _ _ m,keep _ _ _ c4,keep _ _ _ o⟩
def xJ.look(h:xJ w B){b:Int}(hk:(Tv .i64 b).wf=G_):
  ∃v,(Instr.lookup 183 (.map (A_ B)) (U G b) E_).run prog w=.ok v w/\xK w v (qh b):=by
 obtain⟨i,k,l,m,ho,d,e,f,c4,g⟩:=h;obtain⟨v,ps,c,hv⟩:=ho.lookup aDv underlying183 (bJb w) (zd:=.nil) (zp:=[]) rfl (aDw hk);refine⟨v,c,?_⟩;rw[aUf]at hv;unfold qh;split at hv
 ·rename_i e1;rw[RF e1];refine RN ⟨_,Gq hv,d7,λj a=>?_⟩;have:j=0:=by simp at a;omega
  subst this;exact d
 split at hv
 ·rename_i e1 e2;rw[RD e1,RF e2];refine RN ⟨_,Gq hv,d7,λj a=>?_⟩;have:j=0:=by simp at a;omega
  subst this;exact e
 split at hv
 ·rename_i e1 e2 e3;rw[RD e1,RD e2,RF e3];refine RN ⟨_,Gq hv,d7,λj a=>?_⟩;have:j=0\/j=1:=by simp at a;omega
  rcases this with rfl|rfl
  ·exact f
  ·exact c4
 split at hv
 ·rename_i e1 e2 e3 e4;rw[RD e1,RD e2,RD e3,RF e4];refine RN ⟨_,Gq hv,d7,λj a=>?_⟩;have:j=0:=by simp at a;omega
  subst this;exact g
 ·rename_i e1 e2 e3 e4;rw[RD e1,RD e2,RD e3,RD e4];exact RP ⟨rfl,aUg hv⟩
def Gr{D:DataW Unit}(ho:w.ownsMap prog 3 wL B n D)(hn:n<100)(a:Int)(hk:(Tv .i64 a).wf=G_)(o:Obj)(len:Nat):
  ∃w',(Instr.mapUpdate 183 (.map (A_ B)) (U G a) (J (A_ ⟨w.heap.size,0,B_⟩) len len)).run prog (w.alloc o)=.ok () w'
   /\w'.ownsMap prog 3 wL B (n+1) (D.put (.int .i64 a) (qR w.heap.size len))/\(w.alloc o).grownBy w' (A_ B):=
 (ho.alloc o).update aDv underlying183 (by unfold maxLen;omega) (aDw hk) (aUh _ _)
def Du(b:(w.alloc (R vs t)).grownBy w1 (A_ B))(c:B<w.heap.size)(hv:vs[j]? = A_ v):w1.cell? ⟨w.heap.size,j,B_⟩=A_ v:=by
 have h1:=b.block w.heap.size s7 (by intro e;injection e with e;omega);exact(UN (w:=w.alloc (R vs t)) (a:=⟨w.heap.size,j,B_⟩) h1).trans ((UM _ _ _ _ rfl).trans hv)
def zO{o:Obj}(d:(w.alloc o).grownBy w1 (A_ B))(f:b≠B)(hv:w.cell? ⟨b,j,B_⟩=A_ v):w1.cell? ⟨b,j,B_⟩=A_ v:=by
 have c:=Db (a:=⟨b,j,B_⟩) hv;have h1:=d.block b (by simp;simp at c;omega) (by intro e;injection e with e;omega);exact(UN (w:=w.alloc o) (a:=⟨b,j,B_⟩) h1).trans ((World.cell?_alloc_lt _ _ _ c).trans hv)
def aUm(w:C_):Sj prog 129 #[] w λe w'=>e=.returned (.map (A_ w.heap.size))/\xJ w' w.heap.size/\Sd w.heap.size w w':=by
 have z:=@run_makeMap prog;have h0:=World.ownsMap_made w prog 3 wL;have m:(w.alloc (.map #[] 0)).heap.size=w.heap.size+1:=by simp
 obtain⟨w1,A,o1,i⟩:=Gr h0 o7 1 d7 (R #[U G 2] 3) 1;obtain⟨w2,B,o2,f⟩:=Gr o1 o7 2 d7 (R #[U G 3] 3) 1;obtain⟨w3,C,o3,c⟩:=Gr o2 o7 3 d7 (R #[U G 5,U G 7] 3) 2;obtain⟨w4,D,o4,d⟩:=Gr o3 o7 5 d7 (R #[U G 7] 3) 1;have s:=o1.lt;have l:=o2.lt;have l3:=o3.lt;have t:=i.size;have u:=f.size;have v:=c.size;simp only[World.size_alloc]at t u v;have n:=Du (j:=0) i (by rw[m];omega) rfl;have p:=Du (j:=0) f s rfl;have q:=Du (j:=0) c l rfl;have c4:=Du (j:=1) c l rfl;have r:=Du (j:=0) d l3 rfl;have y:Hid (xJ w4 w.heap.size):=⟨_,_,_,_,o4,zO d o7 (zO c o7 (zO f o7 n)),zO d o7 (zO c o7 p),zO d o7 q,zO d o7 c4,r⟩
 have one:∀{a b:C_} {o:Obj},(a.alloc o).grownBy b (A_ w.heap.size)->w.heap.size<=a.heap.size->Sd w.heap.size a b:=fun {a b o} g hs=>
  ((RS _ a).alloc hs o).grown g (by simp;omega) (λk hk=>by injection hk with e;omega)
 have x:Hid (Sd w.heap.size w w4):=(((((RS _ w).alloc au _).trans (one i s7)).trans (one f o7)).trans (one c o7)).trans (one d o7);rw[m]at A;clear o1 o2 o3 o4 i f c d s l l3 t u v n p q c4 r one h0 m;go_enter func129,ntmps129;go_wp2;go_ret;exact⟨rfl,y.out,x.out⟩
def flat:List (Int×Int)->List D_
 |[]=>[]
 |r::rs=>U G r.1::U G r.2::flat rs
def dA(rs:List (Int×Int))(k:Nat):Int×Int:=rs.getD k (0,0)
def aT5(rs:List (Int×Int)):(flat rs).length=rs.length*2:=by
 induction rs with
 |nil=>rfl
 |cons r rs ih=>simp[flat,ih];omega
def aB5(rs:List (Int×Int))(k:Nat)(h:k<rs.length):(flat rs)[k*2]? = A_ (U G (dA rs k).1)/\(flat rs)[k*2+1]? = A_ (U G (dA rs k).2):=by
 induction rs generalizing k with
 |nil=>simp at h
 |cons r rs ih=>
  cases k with
  |zero=>exact⟨rfl,rfl⟩
  |succ k=>
   have:=ih k (by simpa using h);rw[show(k+1)*2=k*2+1+1 by omega]
   simpa[flat,dA]using this
def aT6(rs:List (Int×Int)):∀u∈flat rs,u.oneCell'=G_:=by
 induction rs with
 |nil=>simp[flat]
 |cons r rs ih=>
  intro u a;simp only[flat,SB]at a;rcases a with rfl|rfl|a
  ·rfl
  ·rfl
  ·exact ih u a
def jW(w:C_)(b off:Nat)(rs:List (Int×Int)):Prop:=∀j u,(flat rs)[j]? = A_ u->w.cell? ⟨b,off+j,B_⟩=A_ u
def jW.below{off:Nat}(h:jW w b off rs)(d:Sd n w w')(hn:w.heap.size<=n):jW w' b off rs:=λj u c=>
 (d.cell (p:=⟨b,off+j,B_⟩) (Sn (Db (a:=⟨b,off+j,B_⟩) (h j u c)) hn)).trans (h j u c)
def jW.row{off:Nat}(h:jW w b off rs)(hk:k<rs.length):
  w.cell? ⟨b,off+k*2,B_⟩=A_ (U G (dA rs k).1)/\w.cell? ⟨b,off+k*2+1,B_⟩=A_ (U G (dA rs k).2):=
 ⟨h _ _ (aB5 rs k hk).1,by have:=h _ _ (aB5 rs k hk).2;rwa[<-Nat.add_assoc]at this⟩
def pQ(p r:Int×Int):Int:=vH (qh p.2) p.1 r.1 r.2
def jk:Int×Int->Nat->List (Int×Int)->Int×Int
 |_,_,[]=>(0,-1)
 |p,i,r::rs=>if pQ p r=0 then jk r (i+1) rs else(pQ p r,(i:Int))
def eZ:List (Int×Int)->Int×Int
 |[]=>(8,-1)
 |r::rs=>if 20<(r::rs).length then(4,-1)else if r=(0,1)then jk r 1 rs else(1,0)
def AV(w:C_)(b:Nat)(rs:List (Int×Int)):Prop:=∃cb c:Nat,w.cell? ⟨b,0,B_⟩=A_ (J (A_ ⟨cb,0,B_⟩) rs.length c)/\jW w cb 0 rs
def AV.below(h:AV w b rs)(d:Sd n w w')(hn:w.heap.size<=n):AV w' b rs:=by
 obtain⟨cb,c,h1,h2⟩:=h;exact⟨cb,c,(d.cell (p:=⟨b,0,B_⟩) (Sn (Db (a:=⟨b,0,B_⟩) h1) hn)).trans h1,h2.below d hn⟩
def aKz(w:C_)(rs:List (Int×Int))(t err:D_):Prop:=
 (eZ rs=(0,-1)/\err=.nilIface/\∃b:Nat,t=E (A_ ⟨b,0,B_⟩)/\AV w b rs)
 \/(¬(eZ rs).1=0/\t=E B_/\(((eZ rs).2=-1/\err=.iface 30 (U G (eZ rs).1))
   \/∃b:Nat,err=.iface 180 (E (A_ ⟨b,0,B_⟩))/\w.cell? ⟨b,0,B_⟩=A_ (U G (eZ rs).1)/\w.cell? ⟨b,1,B_⟩=A_ (U G (eZ rs).2)))
def bFo(a:J_)(n c:Nat)(w:C_):(binOp .eql 48 (J (A_ a) n c) (J B_ 0 0)).run prog w=.ok (.bool E_) w:=k7
def aDg:(prog.info? 109).map (λi=>(i.zero,i.size,i.bytes))=A_ (A_ (.agg #[U G 0,U G 0]),2,16):=k7
def aN4(b off cap:Nat)(rs:List (Int×Int))(w:C_)(h:jW w b off rs)(A:0<rs.length)(p:rs.length<=60):
  Sj prog 131 #[J (A_ ⟨b,off,B_⟩) rs.length cap] w
   λe w'=>∃cb c:Nat,e=Y (J (A_ ⟨cb,0,B_⟩) rs.length c)/\jW w' cb 0 rs/\Sd w.heap.size w w':=by
 have D:=bFo ⟨b,off,B_⟩ rs.length cap;obtain⟨B,hi,m,n,o⟩:=info_parts aDg;have f:Sd w.heap.size w (w.alloc (R #[] 109)):=(RS _ _).alloc au _
 have h1:Hid (∀j u,(flat rs)[j]? = A_ u->(w.alloc (R #[] 109)).cell? ((⟨b,off,B_⟩:J_).add j)=A_ u):=λj u a=>by
  rw[Addr.add_lit];exact(h.below f au) j u a
 have h2:Hid ((w.alloc (R #[] 109)).ownsRow w.heap.size 109 2 (J (A_ ⟨w.heap.size,0,B_⟩) 0 0) 0 []):=
  ⟨rfl,RN ⟨w.heap.size,0,#[],rfl,au,(MapKept.heap_alloc w _).1,au,Sv _,rfl,rfl⟩⟩
 clear h f;go_enter func131,ntmps131;go_wp2_with (at_builtin;go_loud (refine wpList_append_own _ rfl _ _ 48 rfl w.heap.size 109 B (.agg #[U G 0,U G 0]) 2 16 underlying48 hi m n o rfl d7 _ 0 [] rfl h2.out ⟨b,off,B_⟩ rs.length cap (flat rs) rfl (aT5 rs) h1.out (aT6 rs) (by unfold maxLen;omega) o7 s7 ?_);intro v1 w1 l x q);go_ret;obtain⟨C,⟨rfl,h0⟩|⟨g,c,d,rfl,s,y,z,t,v,i⟩⟩:=l
 ·omega
 ·refine⟨g,c,by simp,λj u a=>?_,((RS _ w).alloc au _).grown x s7 (λk hk=>by cases hk;exact au)⟩;rw[List.nil_append]at i
  have h3:d.toList[j]? = A_ u:=by
   rw[<-i,List.getElem?_take]at a;split at a
   ·exact a
   ·cases a
  have r:d[j]? = A_ u:=by rw[<-h3];simp
  simp[SS,y,r]
def bDq{P:Program}{id:Nat}{Q:Exit->Act->C_->Prop}{a:Act}{l:List Oper}(n:Nat)(c:P.follows .mixedOrders=G_)(b:Region.lexTailB .any l.toArray n=G_)(h:wpStill P l.toArray w.drew (λa'=>wpList P l.toArray Q (l.drop n) a' w.drew) (l.take n) a):(Code.region id l.toArray G_).wp P Q a w:=wp_region_still_tail n c b h
def aZk(a:Option J_)(cap:Nat)(w:C_):Sj prog 95 #[J a 0 cap] w λe w'=>e=Y (.tuple #[E B_,.iface 30 (U G 8)])/\w'=w:=by
 go_enter func95,ntmps95;go_wp2;go_ret2;exact⟨rfl,rfl⟩
def EU(rs:List (Int×Int)):Prop:=∀k,k<rs.length->(Tv .i64 (dA rs k).1).wf=G_/\(Tv .i64 (dA rs k).2).wf=G_
def bEk{p:Int×Int}(h:k<rs.length)(a:pQ p (dA rs k)=0):jk p k (rs.drop k)=jk (dA rs k) (k+1) (rs.drop (k+1)):=by
 rw[Tt h];have:rs[k]=dA rs k:=by simp[dA,h]
 rw[this];simp[jk,a]
def bEl{p:Int×Int}(h:k<rs.length)(a:¬pQ p (dA rs k)=0):jk p k (rs.drop k)=(pQ p (dA rs k),(k:Int)):=by
 rw[Tt h];have:rs[k]=dA rs k:=by simp[dA,h]
 rw[this];simp[jk,a]
def bEj{p:Int×Int}(h:rs.length<=k):jk p k (rs.drop k)=(0,-1):=by
 rw[Xa h];rfl
def Cq(r:Int×Int)(rs:List (Int×Int)):eZ (r::rs)=if 20<(r::rs).length then(4,-1)else if r=(0,1)then jk r 1 rs else(1,0):=rfl
def Ju(h:20<rs.length):eZ rs=(4,-1):=by
 cases rs with
 |nil=>simp at h
 |cons r rs=>rw[Cq,RF h]
def aI6(h0:0<rs.length)(h:rs.length<=20)(a:¬dA rs 0=(0,1)):eZ rs=(1,0):=by
 cases rs with
 |nil=>simp at h0
 |cons r rs=>rw[Cq,RD o7,RD (by exact a)]
def bG5(h0:0<rs.length)(h:rs.length<=20)(a:dA rs 0=(0,1)):eZ rs=jk (dA rs 0) 1 (rs.drop 1):=by
 cases rs with
 |nil=>simp at h0
 |cons r rs=>rw[Cq,RD o7,RF (by exact a)];rfl
def Rc(h:(a != 0)=G_):¬a=0:=by simpa using h
def aNb(h:(a != 0)=E_):a=0:=by simpa using h
def bI5(v:D_)(p r:Int×Int)(w:C_)(h:xK w v (qh p.2)):
  Sj prog 130 #[v,.agg #[U G p.1,U G p.2],.agg #[U G r.1,U G r.2]] w λe w'=>e=Y (U G (pQ p r))/\Sd w.heap.size w w':=bI4 v _ _ _ _ _ w h
def aFf(b off cap:Nat)(rs:List (Int×Int))(w:C_)(h:jW w b off rs)(r:EU rs)(f:0<rs.length)(p:rs.length<=60):
  Sj prog 95 #[J (A_ ⟨b,off,B_⟩) rs.length cap] w λe w'=>∃t err,e=Y (.tuple #[t,err])/\aKz w' rs t err/\Sd w.heap.size w w':=by
 have x:=ah h;have I:=ah r;obtain⟨n,o⟩:=h.row f;simp only[Nat.zero_mul,Nat.add_zero]at n o;clear h r;go_enter func95,ntmps95;go_wp2_with fail
 ·go_ret2;exact⟨_,_,rfl,RN ⟨by rw[Ju o7];decide,rfl,RP (by rw[Ju o7];exact⟨rfl,rfl⟩)⟩,RS _ _⟩
 ·refine(aUm _).mono ?_;rintro e w1 ⟨rfl,A,l⟩;have F:Hid (eZ rs=jk (dA rs 0) 1 (rs.drop 1)):=bG5 f o7 (by apply Prod.ext<;>assumption);have s:=ah A;have g:=ah l;clear A l n o;go_wp2_with fail;go_loopw [5,6] (λi _ wr=>∃m:Nat,m<rs.length/\i=U G ((m+1:Nat):Int)/\xJ wr w.heap.size/\Sd w.heap.size w wr/\jk (dA rs m) (m+1) (rs.drop (m+1))=eZ rs) (λi _ _=>rs.length - (intOf i).toNat)
  case atStart=>exact⟨0,f,rfl,s.out,g.out,F.out.symm⟩
  case round=>
   obtain⟨m,C,rfl,B,z,D⟩:=hrel;have s:=ah B;have g:=ah z;have u:=ah D;obtain⟨K,L⟩:=(x.out.below z au).row C;clear B z D;go_wp2_with fail
   ·have k:m+1<rs.length:=o7;obtain⟨d0,M⟩:=(x.out.below g.out au).row k;obtain⟨v,q,hv⟩:=(s.out.below (RS wr.heap.size wr).drew au).look (I.out m C).2;have H:=ah hv;clear hv;have N:IntKind.i64.wrap (m:Int)=m:=IntWalk.i64_in _ o7;have O:(m:Int)<rs.length:=o7;have P:(m:Int)+1<rs.length:=o7;have Q:(0:Int)<=(m:Int)+1:=o7;have R:((m:Int)+1).toNat=m+1:=o7;refine bDq 17 k7 k7 ?_;simp only[List.take_succ_cons,List.take_zero,List.drop_succ_cons,List.drop_zero]
    repeat still_step
    try refine wpStill_nil ?_
    clear q N O P Q R K L d0 M;go_wp2_with fail;refine(bI5 v (dA rs m) (dA rs (m+1)) _ H.out).mono ?_;rintro e w2 ⟨rfl,j⟩;have a:Hid (Sd wr.heap.size wr w2):=(RS _ wr).drew.trans j;clear j;go_wp2_with fail
    ·go_ret2;have d:eZ rs=(pQ (dA rs m) (dA rs (m+1)),((m+1:Nat):Int)):=u.out.symm.trans (bEl k (Rc a7))
     exact⟨_,_,rfl,RN ⟨by rw[d];exact Rc a7,rfl,RN ⟨w2.heap.size,rfl,by rw[d];exact UM _ _ _ _ rfl,by rw[d];exact UM _ _ _ _ rfl⟩⟩,
      (g.out.trans (a.out.mono g.out.size)).alloc (RV g.out.size a.out.size) _⟩
    ·go_roundw
     case rel=>exact⟨m+1,k,by go_num,s.out.below a.out au,g.out.trans (a.out.mono g.out.size),(bEk k (aNb a7)).symm.trans u.out⟩
     case measure=>simp[intOf];omega
   ·refine(aN4 b off cap rs _ (x.out.below g.out au) f p).mono ?_;rintro e w2 ⟨cb,c,rfl,E,j⟩;have d:Hid (eZ rs=(0,-1)):=u.out.symm.trans (bEj o7);have y:=ah E;have a:=ah j;clear j E;go_wp2;go_ret2
    exact⟨_,_,rfl,RP ⟨d.out,rfl,w2.heap.size,rfl,cb,c,UM _ _ _ _ rfl,y.out.below ((RS _ _).alloc au _) au⟩,
     (g.out.trans (a.out.mono g.out.size)).alloc (RV g.out.size a.out.size) _⟩
 ·go_ret2;have d:eZ rs=(1,0):=aI6 f o7 (λe=>absurd (RJ Prod.snd e) a7);exact⟨_,_,rfl,RN ⟨by rw[d];decide,rfl,RN ⟨w.heap.size,rfl,by rw[d];exact UM _ _ _ _ rfl,by rw[d];exact UM _ _ _ _ rfl⟩⟩,(RS _ _).alloc au _⟩
 ·go_ret2;have d:eZ rs=(1,0):=aI6 f o7 (λe=>absurd (RJ Prod.fst e) a7);exact⟨_,_,rfl,RN ⟨by rw[d];decide,rfl,RN ⟨w.heap.size,rfl,by rw[d];exact UM _ _ _ _ rfl,by rw[d];exact UM _ _ _ _ rfl⟩⟩,(RS _ _).alloc au _⟩
def bK(cur now:Int):List (Int×Int)->Int×Int
 |[]=>(cur,-1)
 |r::rs=>if now<r.1 then(cur,r.1)else bK r.2 now rs
def bY(rs:List (Int×Int))(now:Int):Int×Int:=bK (dA rs 0).2 now (rs.drop 1)
def bB3(h:k<rs.length)(a:(dA rs k).1<=now):bK p now (rs.drop k)=bK (dA rs k).2 now (rs.drop (k+1)):=by
 rw[Tt h];have:rs[k]=dA rs k:=by simp[dA,h]
 rw[this];simp[bK];omega
def bB4(h:k<rs.length)(a:now<(dA rs k).1):bK p now (rs.drop k)=(p,(dA rs k).1):=by
 rw[Tt h];have:rs[k]=dA rs k:=by simp[dA,h]
 rw[this];simp[bK];omega
def bB0(h:rs.length<=k):bK p now (rs.drop k)=(p,-1):=by
 rw[Xa h];rfl
def aGn{v:Int×Int}{b:Int}(h:v=(a,b)):Ze (.tuple #[U G a,U G b])=Y (.tuple #[U G v.1,U G v.2]):=by rw[h]
def bBz(tb:Nat)(now:Int)(rs:List (Int×Int))(w:C_)(h:AV w tb rs)(g:0<rs.length)(l:rs.length<=60):
  Sj prog 141 #[E (A_ ⟨tb,0,B_⟩),U G now] w
   λe w'=>e=Y (.tuple #[U G (bY rs now).1,U G (bY rs now).2])/\Sd w.heap.size w w':=by
 obtain⟨cb,c,s,m⟩:=h;have j:=ah m;clear m;go_enter func141,ntmps141;go_wp2_with fail;go_loopw [4,13] (λp i wr=>∃(k:Nat) (q:Int),k<=rs.length/\i=U G k/\p=U G q/\Sd w.heap.size w wr/\(k=0\/(0<k/\bK q now (rs.drop k)=bY rs now))) (λ_ i _=>rs.length - (intOf i).toNat)
 case atStart=>exact⟨0,0,Sv _,rfl,rfl,RS _ _,RP rfl⟩
 case round=>
  obtain⟨k,q,hk,rfl,rfl,b,d⟩:=hrel;have a:=ah b;have n:k<rs.length->wr.cell? ⟨cb,k*2,B_⟩=A_ (U G (dA rs k).1):=λhk=>by simpa using((j.out.below b au).row hk).1
  have o:k<rs.length->wr.cell? ⟨cb,k*2+1,B_⟩=A_ (U G (dA rs k).2):=λhk=>by simpa using((j.out.below b au).row hk).2
  clear b;rcases d with rfl|⟨r,d⟩
  ·go_wp2_with fail;go_roundw
   case rel=>exact⟨1,(dA rs 0).2,g,rfl,rfl,a.out.alloc a.out.size _,RN ⟨Nat.one_pos,rfl⟩⟩
   case measure=>simp[intOf];omega
  ·have f:=ah d;clear d;go_wp2_with fail
   ·go_quiet (fail);go_wp2;go_ret2;exact⟨aGn (f.out.symm.trans (bB4 a7 a7)),below_drewN (a.out.alloc a.out.size _) _⟩
   ·go_roundw
    case rel=>exact⟨k+1,(dA rs k).2,o7,by go_num,rfl,a.out.alloc a.out.size _,RN ⟨Nat.succ_pos _,(bB3 a7 a7).symm.trans f.out⟩⟩
    case measure=>simp[intOf];omega
   ·go_ret2;exact⟨aGn (f.out.symm.trans (bB0 o7)),a.out⟩
def DN(lo hi z:Int):Bool:=decide (lo<=z)&& decide (z<=hi)
def Mf{lo hi z:Int}:DN lo hi z=G_↔(lo<=z/\z<=hi):=by unfold DN;simp
structure Pt where
 price:Int
 bQ:Int
 sup:Int
def Pt.none_:Pt:=⟨0,0,0⟩
def eX:List Pt->List D_
 |[]=>[]
 |x::l=>U G x.price::U G x.bQ::U G x.sup::eX l
def aR(l:List Pt)(k:Nat):Pt:=l.getD k Pt.none_
def bCh(a b:List Pt):eX (a++b)=eX a++eX b:=by
 induction a with
 |nil=>rfl
 |cons o a ih=>simp[eX,ih]
def aGz(a:List Pt)(x:Pt):eX (a++[x])=eX a++[U G x.price,U G x.bQ,U G x.sup]:=by rw[bCh];rfl
variable {l:List Pt}
def aGy(h:k<l.length):(eX l)[k*3]? = A_ (U G (aR l k).price)/\(eX l)[k*3+1]? = A_ (U G (aR l k).bQ)/\(eX l)[k*3+2]? = A_ (U G (aR l k).sup):=by
 induction l generalizing k with
 |nil=>simp at h
 |cons o l ih=>
  cases k with
  |zero=>exact⟨rfl,rfl,rfl⟩
  |succ k=>
   have:=ih (k:=k) (by simpa using h);rw[show(k+1)*3=k*3+1+1+1 by omega];have e:aR (o::l) (k+1)=aR l k:=by simp[aR]
   rw[e]
   simpa[eX]using this
def NM(h:k<l.length):aR l k=l[k]:=by simp[aR,h]
def mZ(h:k<l.length):aR l k∈l:=by rw[NM h];exact List.getElem_mem h
def aHn{a:Nat}(h:w.ownsRow a t 3 v l.length (eX l))(hk:k<l.length):
  ∃g cap,v=J (A_ ⟨g,0,B_⟩) l.length cap/\w.cell? ⟨g,k*3,B_⟩=A_ (U G (aR l k).price)/\w.cell? ⟨g,k*3+1,B_⟩=A_ (U G (aR l k).bQ)/\w.cell? ⟨g,k*3+2,B_⟩=A_ (U G (aR l k).sup):=by
 obtain⟨g,cap,rfl,_,_⟩:=h.form o7;obtain⟨h1,h2,h3⟩:=aGy hk;exact⟨g,cap,rfl,(h.cellAt _ o7).trans h1,(h.cellAt _ o7).trans h2,(h.cellAt _ o7).trans h3⟩
def okO(o:Ord):Bool:=DN 1 2 o.side&& DN 1 1000000 o.ak
def mH(o:Ord):Bool:=okO o&& !(o.kind == 2)
def jh(l:List Ord)(more:Int):List Int:=(if 0<more then [more]else [])++(l.filter mH).map Ord.price
def qN(p:Int)(o:Ord):Bool:=okO o&& ((o.side == 1)&& ((o.kind == 2) || decide (p<=o.price)))
def qZ(p:Int)(o:Ord):Bool:=okO o&& ((o.side == 2)&& ((o.kind == 2) || decide (o.price<=p)))
def gX(p:Int)(l:List Ord):Int:=(l.map λo=>if qN p o=G_ then o.ak else 0).sum
def gZ(p:Int)(l:List Ord):Int:=(l.map λo=>if qZ p o=G_ then o.ak else 0).sum
def OW(a:List Int)(x:Int):(a++[x]).sum=a.sum+x:=by simp
def Ef(h:okO o=G_):(1<=o.side/\o.side<=2)/\1<=o.ak/\o.ak<=1000000:=by
 unfold okO at h;rw[SV]at h;exact⟨Mf.1 h.1,Mf.1 h.2⟩
def aNi(h:qN p o=G_):okO o=G_:=by unfold qN at h;rw[SV]at h;exact h.1
def bEy(h:qZ p o=G_):okO o=G_:=by unfold qZ at h;rw[SV]at h;exact h.1
def KT(p:Int):∀l:List Ord,0<=gX p l/\gX p l<=1000000*(l.length:Int)
 |[]=>by simp[gX]
 |o::l=>by
  have a:=KT p l;have e:gX p (o::l)=(if qN p o=G_ then o.ak else 0)+gX p l:=by simp[gX]
  rw[e,SC];split
  ·rename_i hx;have:=(Ef (aNi hx)).2;omega
  ·omega
def OX(p:Int):∀l:List Ord,0<=gZ p l/\gZ p l<=1000000*(l.length:Int)
 |[]=>by simp[gZ]
 |o::l=>by
  have a:=OX p l;have e:gZ p (o::l)=(if qZ p o=G_ then o.ak else 0)+gZ p l:=by simp[gZ]
  rw[e,SC];split
  ·rename_i hx;have:=(Ef (bEy hx)).2;omega
  ·omega
def kD(xs:List Int):List Int:=xs.mergeSort λx y=>decide (x<=y)
def OD(xs:List Int):(kD xs).length=xs.length:=List.length_mergeSort _
def Ci:p∈kD xs↔p∈xs:=List.mem_mergeSort
def Am(xs:List Int):(kD xs).Pairwise (·<=·):=by
 have h:=List.pairwise_mergeSort (le:=λx y:Int=>decide (x<=y)) (λa b c h1 h2=>by simp at *;omega) (λa b=>by simp;omega) xs;exact h.imp (λh=>by simpa using h)
def zP(xs:List Int)(i:Nat):Bool:=(i == 0) || !(xs.getD (i - 1) 0 == xs.getD i 0)
def uG(xs:List Int)(k:Nat):List Int:=((List.range k).filter (zP xs)).map λi=>xs.getD i 0
def yR(xs:List Int):List Int:=uG xs xs.length
def aJu(xs:List Int)(k:Nat):uG xs (k+1)=if zP xs k=G_ then uG xs k++[xs.getD k 0]else uG xs k:=by
 unfold uG;rw[List.range_succ,List.filter_append,TY]
 by_cases h:zP xs k=G_
 ·rw[RF h];simp[h]
 ·rw[RD h];simp[h]
def aJt(xs:List Int):∀k,(uG xs k).length<=k
 |0=>by simp[uG]
 |k+1=>by
  rw[aJu];have:=aJt xs k;split
  ·simp;omega
  ·omega
def bG(l:List Ord)(more:Int):List Pt:=(yR (kD (jh l more))).map λp=>⟨p,gX p l,gZ p l⟩
def aCz(h:xs.Pairwise (·<=·)){i:Nat}(a:i<=j)(b:j<xs.length):xs.getD i 0<=xs.getD j 0:=by
 rw[SY,SY,Tp o7,Tp b,Sq,Sq];rcases Nat.lt_or_eq_of_le a with h1|rfl
 ·exact List.pairwise_iff_getElem.1 h i j o7 b h1
 ·exact Int.le_refl _
def Pq{xs:List Int}(h:xs.Pairwise (·<=·)):∀k,k<=xs.length->(uG xs k).Pairwise (· < ·)/\∀p,p∈uG xs k↔∃i,i<k/\xs.getD i 0=p
 |0,_=>⟨by simp[uG],λp=>by simp[uG]⟩
 |k+1,hk=>by
  obtain⟨h1,h2⟩:=Pq h k o7;rw[aJu]
  by_cases f:zP xs k=G_
  ·rw[RF f];refine⟨?_,λp=>?_⟩
   ·rw[List.pairwise_append];refine⟨h1,by simp,λa m b l=>?_⟩;rw[TT]at l;subst l;obtain⟨i,hi,rfl⟩:=(h2 a).1 m;have g:k≠0:=o7
    have q:xs.getD (k - 1) 0≠xs.getD k 0:=by
     unfold zP at f
     simpa[g]using f
    have a1:=aCz h (i:=i) (j:=k - 1) o7 o7;have r:=aCz h (i:=k - 1) (j:=k) o7 o7;omega
   ·rw[Uy,TT,h2];constructor
    ·rintro(⟨i,hi,e⟩|e)
     ·exact⟨i,o7,e⟩
     ·exact⟨k,o7,e.symm⟩
    ·rintro⟨i,hi,e⟩
     by_cases d:i=k
     ·subst d;exact RN e.symm
     ·exact RP ⟨i,o7,e⟩
  ·rw[RD f];refine⟨h1,λp=>?_⟩;rw[h2];constructor
   ·rintro⟨i,hi,e⟩;exact⟨i,o7,e⟩
   ·rintro⟨i,hi,e⟩
    by_cases d:i=k
    ·subst d;have c:zP xs i=E_:=by simpa using f
     unfold zP at c;rw[Bool.or_eq_false_iff]at c;have o:i≠0:=by simpa using c.1
     have n:xs.getD (i - 1) 0=xs.getD i 0:=by simpa using c.2
     exact⟨i - 1,o7,n.trans e⟩
    ·exact⟨i,o7,e⟩
def aJv(h:xs.Pairwise (·<=·)):(yR xs).Pairwise (· < ·):=(Pq h _ au).1
def JB(h:xs.Pairwise (·<=·)):p∈yR xs↔p∈xs:=by
 rw[yR,(Pq h _ au).2,List.mem_iff_getElem];constructor
 ·rintro⟨i,hi,e⟩;exact⟨i,hi,by simpa[SY,hi]using e⟩
 ·rintro⟨i,hi,e⟩;exact⟨i,hi,by simpa[SY,hi]using e⟩
def aHj:∀{a b:List Int},a.Pairwise (· < ·)->b.Pairwise (· < ·)->(∀p,p∈a↔p∈b)->a=b
 |[],[],_,_,_=>rfl
 |[],y::b,_,_,h=>absurd ((h y).2 (SG ..)) s7
 |x::a,[],_,_,h=>absurd ((h x).1 (SG ..)) s7
 |x::a,y::b,ha,hb,h=>by
  rw[List.pairwise_cons]at ha hb
  have c:x=y:=by
   have h1:=(h x).1 (SG ..);have h2:=(h y).2 (SG ..);rw[SB]at h1 h2;rcases h1 with h1|h1
   ·exact h1
   ·rcases h2 with h2|h2
    ·exact h2.symm
    ·have:=ha.1 y h2;have:=hb.1 x h1;omega
  subst c;rw[aHj ha.2 hb.2 (λp=>?_)];constructor
  ·intro hp;have:=(h p).1 (SI _ hp);rw[SB]at this;rcases this with rfl|h1
   ·exact absurd (ha.1 p hp) o7
   ·exact h1
  ·intro hp;have:=(h p).2 (SI _ hp);rw[SB]at this;rcases this with rfl|h1
   ·exact absurd (hb.1 p hp) o7
   ·exact h1
def aAl{l:List Ord}{more:Int}(h:xs.Pairwise (· < ·))(a:∀p,p∈xs↔p∈jh l more):yR (kD (jh l more))=xs:=
 aHj (aJv (Am _)) h (λp=>by rw[JB (Am _),Ci,a])
def wZ{l:List Ord}{more:Int}:p∈jh l more↔((0<more/\p=more)\/∃o∈l,mH o=G_/\o.price=p):=by
 unfold jh;rw[Uy,List.mem_map];constructor
 ·rintro(h|⟨o,ho,e⟩)
  ·split at h
   ·rw[TT]at h;exact RP ⟨a7,h⟩
   ·simp at h
  ·rw[Ua]at ho;exact RN ⟨o,ho.1,ho.2,e⟩
 ·rintro(⟨h,rfl⟩|⟨o,ho,h1,e⟩)
  ·exact RP (by rw[RF h];simp)
  ·exact RN ⟨o,Ua.2 ⟨ho,h1⟩,e⟩
def bCb(l:List Ord)(more:Int):(jh l more).length<=l.length+1:=by
 unfold jh;rw[Sl,TL];have:=UC mH l;split<;>simp<;>omega
def bI(x:Pt):Int:=min x.bQ x.sup
def vQ(n:Int):Int:=if n<0 then -n else n
def qp(x:Pt):Int:=vQ (x.bQ - x.sup)
def fU(l:List Pt):Int:=l.foldl (λm x=>max m (bI x)) 0
def BI(m:Int)(s:Int×Bool)(x:Pt):Int×Bool:=if bI x=m/\(s.2=E_\/qp x<s.1)then(qp x,G_)else s
def rY(m:Int)(l:List Pt):Int×Bool:=l.foldl (BI m) (0,E_)
def FB(m n:Int)(x:Pt):Bool:=(bI x == m)&& (qp x == n)
def zw(m n:Int)(l:List Pt):List Pt:=l.filter (FB m n)
def xU(l:List Pt):Bool:=l.all λx=>decide (x.sup<x.bQ)
def yO(l:List Pt):Bool:=l.all λx=>decide (x.bQ<x.sup)
def Ba(b s:Bool)(around:Int)(p x:Pt):Bool:=
 if b=G_ then decide (x.price<p.price)else if s=G_ then decide (p.price<x.price)
 else decide (vQ (p.price - around)<vQ (x.price - around)) || ((vQ (p.price - around) == vQ (x.price - around))&& decide (p.price<x.price))
def EN(b s:Bool)(around:Int)(x p:Pt):Pt:=if Ba b s around p x=G_ then p else x
def IC(b s:Bool)(around:Int)(l:List Pt):Pt:=l.foldl (EN b s around) (aR l 0)
def Ai(b s:Bool)(around:Int)(l:List Pt)(k:Nat):Pt:=(l.take k).foldl (EN b s around) (aR l 0)
def zC(l:List Pt)(around:Int):Pt:=
 let best:=zw (fU l) (rY (fU l) l).1 l
 IC (xU best) (yO best) around best
structure AU where
 price:Int
 ak:Int
 jN:Int
def Cb(x:Pt):AU:=⟨x.price,bI x,x.bQ - x.sup⟩
def bH(l:List Pt)(around:Int):AU:=if fU l<1 then⟨0,0,0⟩else Cb (zC l around)
def aCj{α:Type}(f:α->Pt->α)(a:α)(h:k<l.length):(l.take (k+1)).foldl f a=f ((l.take k).foldl f a) (aR l k):=by
 rw[SQ h,List.foldl_append,NM h];rfl
def aGr{b s:Bool}{around:Int}(h:k<l.length):Ai b s around l (k+1)=EN b s around (Ai b s around l k) (aR l k):=aCj _ _ h
def aGo(b s:Bool)(around:Int)(l:List Pt):Ai b s around l l.length=IC b s around l:=by unfold Ai IC;rw[List.take_length]
structure Pt.Small(x:Pt):Prop where
 p:-1099511627776<=x.price/\x.price<=1099511627776
 d:-1099511627776<=x.bQ/\x.bQ<=1099511627776
 s:-1099511627776<=x.sup/\x.sup<=1099511627776
def aE6{x:Pt}(h:x∈l):bI x<=fU l:=by
 have mono:∀(l:List Pt) (a:Int),a<=l.foldl (λm x=>max m (bI x)) a:=by
  intro l
  induction l with
  |nil=>intro a;exact Int.le_refl _
  |cons y l ih=>intro a;exact Int.le_trans o7 (ih (max a (bI y)))
 have b:∀(l:List Pt) (a:Int),x∈l->bI x<=l.foldl (λm x=>max m (bI x)) a:=by
  intro l
  induction l with
  |nil=>intro a h;cases h
  |cons y l ih=>
   intro a h;rw[SB]at h;rcases h with rfl|h
   ·exact Int.le_trans o7 (mono l (max a (bI x)))
   ·exact ih _ h
 exact b l 0 h
def MU(l:List Pt):fU l=0\/∃x∈l,bI x=fU l:=by
 have b:∀(l:List Pt) (a:Int),l.foldl (λm x=>max m (bI x)) a=a\/∃x∈l,bI x=l.foldl (λm x=>max m (bI x)) a:=by
  intro l
  induction l with
  |nil=>intro a;exact RP rfl
  |cons y l ih=>
   intro a;rw[U_];rcases ih (max a (bI y))with h|⟨x,c,h⟩
   ·rw[h]
    by_cases d:bI y<=a
    ·exact RP o7
    ·exact RN ⟨y,SG ..,o7⟩
   ·exact RN ⟨x,SI _ c,h⟩
 exact b l 0
def aD8(m:Int):∀l:List Pt,((rY m l).2=E_/\∀x∈l,bI x≠m)\/((rY m l).2=G_/\(∃x∈l,bI x=m/\qp x=(rY m l).1)/\∀x∈l,bI x=m->(rY m l).1<=qp x):=by
 have j:∀(l a:List Pt) (s:Int×Bool),((s.2=E_/\∀x∈a,bI x≠m)\/(s.2=G_/\(∃x∈a,bI x=m/\qp x=s.1)/\∀x∈a,bI x=m->s.1<=qp x))->
   (((l.foldl (BI m) s).2=E_/\∀x∈a++l,bI x≠m)\/((l.foldl (BI m) s).2=G_/\(∃x∈a++l,bI x=m/\qp x=(l.foldl (BI m) s).1)/\∀x∈a++l,bI x=m->(l.foldl (BI m) s).1<=qp x)):=by
  intro l
  induction l with
  |nil=>intro a s h;simpa using h
  |cons y l ih=>
   intro a s h;rw[U_,show a++y::l=(a++[y])++l by simp];refine ih (a++[y]) _ ?_;unfold BI
   by_cases d:bI y=m/\(s.2=E_\/qp y<s.1)
   ·rw[RF d];right;refine⟨rfl,⟨y,by simp,d.1,rfl⟩,λx b c=>?_⟩;rw[Uy,TT]at b;rcases b with b|rfl
    ·rcases h with⟨_,h2⟩|⟨h1,_,h3⟩
     ·exact absurd c (h2 x b)
     ·have:=h3 x b c;rcases d.2 with f|f
      ·rw[h1]at f;cases f
      ·show qp y<=qp x;omega
    ·exact Int.le_refl _
   ·rw[RD d];rcases h with⟨h1,h2⟩|⟨h1,⟨z,k,g,i⟩,h3⟩
    ·left;refine⟨h1,λx b c=>?_⟩;rw[Uy,TT]at b;rcases b with b|rfl
     ·exact h2 x b c
     ·exact d ⟨c,RP h1⟩
    ·right;refine⟨h1,⟨z,by simp[k],g,i⟩,λx b c=>?_⟩;rw[Uy,TT]at b;rcases b with b|rfl
     ·exact h3 x b c
     ·have:¬qp x<s.1:=λe=>d ⟨c,RN e⟩
      omega
 intro l;have:=j l [] (0,E_) (RP ⟨rfl,λx b=>by cases b⟩)
 simpa[rY]using this
def QO(h:1<=fU l):0<(zw (fU l) (rY (fU l) l).1 l).length:=by
 rcases MU l with h1|⟨x,d,h1⟩
 ·omega
 ·rcases aD8 (fU l) l with⟨_,h2⟩|⟨_,⟨z,e,b,c⟩,_⟩
  ·exact absurd h1 (h2 x d)
  ·exact List.length_pos_of_mem (a:=z) (Ua.2 ⟨e,by unfold FB;simp[b,c]⟩)
def aGq(b s:Bool)(around:Int){l:List Pt}(h:0<l.length):∀k,k<=l.length->Ai b s around l k∈l
 |0,_=>by unfold Ai;simpa using mZ h
 |k+1,hk=>by
  rw[aGr o7];unfold EN;split
  ·exact mZ o7
  ·exact aGq b s around h k o7
def KJ(around:Int)(h:1<=fU l):zC l around∈l/\bI (zC l around)=fU l:=by
 have h0:=QO h;have h1:=aGq (xU (zw (fU l) (rY (fU l) l).1 l)) (yO (zw (fU l) (rY (fU l) l).1 l)) around h0 _ au;rw[aGo]at h1;have h2:zC l around∈zw (fU l) (rY (fU l) l).1 l:=h1;have h3:=Ua.1 h2;refine⟨h3.1,?_⟩;have a:=h3.2;unfold FB at a;rw[SV]at a
 simpa using a.1
structure aG where
 rs:List (Int×Int)
 st:Int
 dy:Int
 an:Int
 la:Int
 ti:Int
 mo:Int
 L:List Ord
 P:List Ord
 I:List Int
 ph:Int
 now:Int
 en:Int
 lo:Int
def qP(p:Int):Nat->FS->FS
 |0,s=>s
 |n+1,s=>if s.q<=0 then s else qP p n (jX p s)
def Gn(p:Int)(s:FS):∀k,fB p (jX p s) k=fB p s (k+1)
 |0=>rfl
 |k+1=>by
  show jX p (fB p (jX p s) k)=jX p (fB p s (k+1));rw[Gn p s k]
def aBy{p:Int}:∀{K n:Nat} {s:FS},(fB p s K).q=0->(∀j,j<K->0<(fB p s j).q)->K<=n->qP p n s=fB p s K
 |0,0,_,_,_,_=>rfl
 |0,n+1,s,h,_,_=>by
  have b:s.q=0:=h;show(if s.q<=0 then s else _)=s;rw[RF o7]
 |K+1,0,_,_,_,hn=>by omega
 |K+1,n+1,s,h,hj,hn=>by
  have h0:0<s.q:=hj 0 o7;show(if s.q<=0 then s else qP p n (jX p s))=_;rw[RD o7,aBy (K:=K) (by rw[Gn];exact h) (λj a=>by rw[Gn];exact hj (j+1) o7) o7,Gn]
def Dp(p q:Int)(L:List Ord):FS:=qP p (L.length+1) ⟨[],L,q⟩
def aTv{q:Int}{K:Nat}(h:pV p ⟨[],L,q⟩)(h0:(fB p ⟨[],L,q⟩ K).q=0)(a:∀j,j<K->0<(fB p ⟨[],L,q⟩ j).q):Dp p q L=fB p ⟨[],L,q⟩ K:=by
 refine aBy h0 a ?_;cases K with
 |zero=>omega
 |succ K=>
  have:=Gm h K a;have e:(⟨[],L,q⟩:FS).L.length=L.length:=rfl;omega
def aV(m:aG):AU:=bH (bG m.L m.la) m.la
def kR(m:aG):AU:=if kX m.ph=G_ then aV m else⟨0,0,0⟩
def iG(la:Int):List Int->Int
 |[]=>la
 |p::ts=>iG p ts
def aD0(la:Int):∀(ts:List Int) (p:Int),iG la (ts++[p])=p
 |[],_=>rfl
 |x::ts,p=>aD0 x ts p
def vT(m:aG)(ts:List Int)(p:Int):Bool:=vU m.st m.dy m.an (iG m.la ts) p
def sM(m:aG):aG:={ m with ph:=4,en:=m.now+m.ti,lo:=0 }
def pK(m:aG)(o:Ord):Int:=
 if(decide (1<=o.side)&& decide (o.side<=2))=E_\/(decide (1<=o.kind)&& decide (o.kind<=4))=E_\/o.id<1 then 1
 else if Ez (dG o).price o.ak=E_ then 2 else if uE m.ph o.kind=E_ then 6 else if o.id∈m.I then 9 else if 100<=m.L.length+m.P.length then 12 else 0
def bZ(m:aG)(o:Ord):MS×Bool:=dH (vT m) o (aP (3 - o.side) m.L) ⟨[],m.L,o.ak,[]⟩
def nC(m:aG)(o:Ord):List dx×aG:=
 ((bZ m o).1.fs,if(bZ m o).2=G_ then sM { m with L:=if 0<(bZ m o).1.q/\o.kind≠2 then fF (eD o (bZ m o).1.q) (bZ m o).1.L else(bZ m o).1.L,la:=iG m.la (bZ m o).1.ts }
  else { m with L:=if 0<(bZ m o).1.q/\o.kind≠2 then fF (eD o (bZ m o).1.q) (bZ m o).1.L else(bZ m o).1.L,la:=iG m.la (bZ m o).1.ts })
def uD(m:aG)(o:Ord):List dx×aG:=
 if o.kind=4/\m.ph≠5 then([],{ m with P:=m.P++[o] })else if m.ph≠3 then([],{ m with L:=fF o m.L })else nC m o
def jL(m:aG)(o:Ord):List dx×aG:=if pK m o=0 then uD { m with I:=m.I++[o.id] } (dG o)else([],m)
def tF(m:aG)(id:Int):Int:=if m.ph=7 then 6 else if 0<=dz id m.P then 0 else tC id m.L
def oU(m:aG)(id:Int):aG:=if m.ph=7 then m else if 0<=dz id m.P then { m with P:=rX (dz id m.P).toNat m.P }else { m with L:=kI id m.L }
def zW(L:List Ord):List Ord:=L.filter λo=>o.kind == 1
def dF(m:aG):List dx×aG:=
 if 0<(aV m).ak then((Dp (aV m).price (aV m).ak m.L).fs,{ m with L:=zW (Dp (aV m).price (aV m).ak m.L).L,an:=(aV m).price,la:=(aV m).price })
 else([],{ m with L:=zW m.L })
def xX(m:aG):aG:={ m with ph:=5,L:=m.P.foldl (λL o=>fF o L) m.L,P:=[] }
def yQ(m:aG):Int:=if m.ph=7 then 6 else 0
def Jy(was is:Int)(m:aG):List dx×aG:=
 if is=7 then((if m.ph=5 then(dF m).1 else []),{ (if m.ph=5 then(dF m).2 else m)with L:=[],P:=[],ph:=7 })
 else if m.ph=6 then([],m)
 else if was≠is/\is=3 then((dF m).1,{ (dF m).2 with ph:=is })
 else if was≠is/\is=5 then([],xX m)
 else if was≠is then([],{ m with ph:=is })
 else if m.ph=4/\m.en<=m.now then
  (if(aV m).ak=0\/nM m.st m.an (aV m).price=G_ then((dF m).1,{ (dF m).2 with ph:=3 })
   else if m.lo<m.mo then([],{ m with lo:=m.lo+1,en:=m.now+m.ti })
   else([],{ m with ph:=6 }))
 else([],m)
def fK(m:aG):List dx×aG:=if m.ph=7 then([],m)else Jy (bY m.rs m.now).1 (bY m.rs (m.now+1)).1 { m with now:=m.now+1 }
def uW(m:aG):Int:=if m.ph=6\/m.ph=7 then 6 else 0
def oZ(m:aG):aG:=if m.ph=6\/m.ph=7 then m else { m with ph:=6 }
def yJ(m:aG):Int:=if m.ph=6 then 0 else 6
def nV(m:aG):aG:=if m.ph=6 then(if(bY m.rs m.now).1=3 then sM m else if(bY m.rs m.now).1=5 then xX m else { m with ph:=(bY m.rs m.now).1 })else m
def Kq{p:J_}(h:Out S w w')(b:p.block<w.heap.size)(a:¬S p.block):w'.cell? p=w.cell? p:=by
 have:=h.block p.block b a;unfold SS;rw[this]
def aM4(bb g:Nat)(s d a l p:Int)(w:C_)(h:dU w bb s d a l)(hp:fP 1 1000000 p=G_)(x:w.cell? ⟨g,0,B_⟩=A_ (U G 1))(i:g≠bb):
  Sj prog 226 #[E (A_ ⟨bb,0,B_⟩),U G p,J (A_ ⟨g,0,B_⟩) 1 1] w λe w'=>e=Y .nilIface/\Out (λj=>j=bb) w w'/\dU w' bb s d a p:=by
 have y:=ah h;have u:=ah x;have z:=ah i;have B:=ah hp;clear h x i hp;go_enter func226,ntmps226;go_wp2_with fail;refine(Fp p 1 _).mono ?_;rintro e w1 ⟨rfl,t⟩;have A:Hid (Out (λj=>j=bb) w w1):=Out.of_below t au;have o:=ah (y.out.below t);rw[aHi,B.out];clear t;go_wp2;go_loopw [15] (λv wr=>∃k:Nat,k<=1/\v=U G k/\Out (λj=>j=bb) w wr/\(k=0->dU wr bb s d a l)/\(k=1->dU wr bb s d a p)) (λv _=>1 - (intOf v).toNat)
 case atStart=>exact⟨0,o7,rfl,A.out,λ_=>o.out,λh=>absurd h d7⟩
 case round=>
  obtain⟨k,hk,rfl,ho,m,n⟩:=hrel;have c:=ah ho;have q:=ah m;have r:=ah n;clear ho m n;have f:k=0\/k=1:=o7;rcases f with rfl|rfl
  ·have b:Hid (dU wr bb s d a l):=q.out rfl;have C:=(Kq (p:=⟨g,0,B_⟩) c.out (SN w _ u.out) z.out).trans u.out;have D:=mV (j:=3) b.out rfl;have F:=Kr (j:=3) b.out;go_wp2;go_roundw
   case rel=>exact⟨1,o7,rfl,CZ c.out (Kt wr ⟨bb,3,B_⟩ _),λh=>absurd h d7,λ_=>Ku (j:=3) (U G p) b.out⟩
   case measure=>simp[intOf]
  ·go_wp2;go_ret;exact⟨rfl,c.out,r.out (by trivial)⟩
def aM5(bb g:Nat)(s d a l p:Int)(w:C_)(h:dU w bb s d a l)(hp:fP 1 1000000 p=G_)(C:w.cell? ⟨g,0,B_⟩=A_ (U G 0))(i:w.cell? ⟨g,1,B_⟩=A_ (U G 1))(n:g≠bb):
  Sj prog 226 #[E (A_ ⟨bb,0,B_⟩),U G p,J (A_ ⟨g,0,B_⟩) 2 2] w λe w'=>e=Y .nilIface/\Out (λj=>j=bb) w w'/\dU w' bb s d p p:=by
 have D:=ah h;have A:=ah C;have f:=ah i;have B:=ah n;have H:=ah hp;clear h C n hp i;go_enter func226,ntmps226;go_wp2_with fail;refine(Fp p 1 _).mono ?_;rintro e w1 ⟨rfl,z⟩;have F:Hid (Out (λj=>j=bb) w w1):=Out.of_below z au;have t:=ah (D.out.below z);rw[aHi,H.out];clear z;go_wp2;go_loopw [15] (λv wr=>∃k:Nat,k<=2/\v=U G k/\Out (λj=>j=bb) w wr/\(k=0->dU wr bb s d a l)/\(k=1->dU wr bb s d p l)/\(k=2->dU wr bb s d p p)) (λv _=>2 - (intOf v).toNat)
 case atStart=>exact⟨0,o7,rfl,F.out,λ_=>t.out,λh=>absurd h d7,λh=>absurd h d7⟩
 case round=>
  obtain⟨k,hk,rfl,ho,o,q,r⟩:=hrel;have c:=ah ho;have u:=ah o;have x:=ah q;have y:=ah r;clear ho o q r;have m:k=0\/k=1\/k=2:=o7;rcases m with rfl|rfl|rfl
  ·have b:Hid (dU wr bb s d a l):=u.out rfl;have I:=(Kq (p:=⟨g,0,B_⟩) c.out (SN w _ A.out) B.out).trans A.out;have K:=mV (j:=2) b.out rfl;have M:=Kr (j:=2) b.out;go_wp2;go_roundw
   case rel=>exact⟨1,o7,rfl,CZ c.out (Kt wr ⟨bb,2,B_⟩ _),λh=>absurd h d7,λ_=>Ku (j:=2) (U G p) b.out,λh=>absurd h d7⟩
   case measure=>simp[intOf]
  ·have b:Hid (dU wr bb s d p l):=x.out rfl;have I:=(Kq (p:=⟨g,1,B_⟩) c.out (SN w _ f.out) B.out).trans f.out;have L:=mV (j:=3) b.out rfl;have N:=Kr (j:=3) b.out;go_wp2;go_roundw
   case rel=>exact⟨2,o7,rfl,CZ c.out (Kt wr ⟨bb,3,B_⟩ _),λh=>absurd h d7,λh=>absurd h d7,λ_=>Ku (j:=3) (U G p) b.out⟩
   case measure=>simp[intOf]
  ·go_wp2;go_ret;exact⟨rfl,c.out,y.out (by trivial)⟩
def aM7(bb:Nat)(s d a l p:Int)(w:C_)(h:dU w bb s d a l)(hp:fP 1 1000000 p=G_):
  Sj prog 191 #[E (A_ ⟨bb,0,B_⟩),U G p] w λe w'=>e=Y .nilIface/\Out (λj=>j=bb) w w'/\dU w' bb s d a p:=by
 have c:=ah h;have i:=ah hp;have f:=ah (SK h);clear h hp;go_enter func191,ntmps191;go_wp2_with fail;refine(aM4 bb _ s d a l p _ (c.out.below (uQ w _)) i.out (by simp[go_sem]) (by have:=f.out;omega)).mono ?_;rintro e w' ⟨rfl,ho,hn⟩;have g:Hid (Out (λj=>j=bb) w w'):=CZ (Out.of_below (uQ w _) au) ho;have b:=ah hn;clear ho hn;go_wp2;go_ret;exact⟨rfl,g.out,b.out⟩
def aM3(bb:Nat)(s d a l p:Int)(w:C_)(h:dU w bb s d a l)(hp:fP 1 1000000 p=G_):
  Sj prog 196 #[E (A_ ⟨bb,0,B_⟩),U G p] w λe w'=>e=Y .nilIface/\Out (λj=>j=bb) w w'/\dU w' bb s d p p:=by
 have c:=ah h;have i:=ah hp;have f:=ah (SK h);clear h hp;go_enter func196,ntmps196;go_wp2_with fail;refine(aM5 bb _ s d a l p _ (c.out.below (uQ w _)) i.out (by simp[go_sem]) (by simp[go_sem]) (by have:=f.out;omega)).mono ?_;rintro e w' ⟨rfl,ho,hn⟩;have g:Hid (Out (λj=>j=bb) w w'):=CZ (Out.of_below (uQ w _) au) ho;have b:=ah hn;clear ho hn;go_wp2;go_ret;exact⟨rfl,g.out,b.out⟩
def JR(err:D_)(n:Int):Prop:=(err=.nilIface/\n=0)\/err=.iface 30 (U G n)
def Ho{S:Nat->List Ly}{rs:List aT}{fr:List Nat}(hp:Pb n rs fr S)(a:bD S L):L.length<=100:=by have:=hp.most;have:=a.len;omega
def Md{b:aU}(a:bD b.S L){s:Nat}(c:s<2){x:Ly}(d:x∈b.S s):∃k,k<L.length/\dz x.o.id L=k/\aO L k=x.o:=by
 rcases DJ x.o.id L 0 with h|⟨k,hk,h1,h2⟩
 ·have h3:dz x.o.id L=-1:=h;have:=a.aDc c d;omega
 ·exact⟨k,hk,by have:dz x.o.id L=((0+k:Nat):Int):=h1;rw[this];congr 1;omega,a.at c d hk h2⟩
def bCe{b:aU}(h:Bk w bb m b)(v:m+1<=900000)(c:bD b.S L)(o:Ord)(z:(Tv .i64 o.id).wf=G_):
  Sj prog 192 #[E (A_ ⟨bb,0,B_⟩),o.agg] w λe q=>∃err,e=Y err/\JR err (addN o L)/\∃b',bD b'.S (fF o L)/\Goes w q bb (m+1) b b':=by
 have stay:∀n:Int,n≠0->addN o L=n->fF o L=L:=λn h1 h2=>by unfold fF;rw[RD (by rw[h2];exact h1)]
 refine(bBu bb m b o w h v z).mono ?_;rintro e q (⟨h1,rfl,d⟩|⟨h1,h2,h3,rfl,d⟩|⟨h1,h2,h3,f,rfl,d⟩|⟨h1,h2,h3,f,r,rfl,d⟩|⟨h1,h2,h3,f,r,rfl,b',s,k,a,l,p,t,d⟩)
 ·have hn:addN o L=1:=aK6 (by rw[<-EF];exact h1);exact⟨_,rfl,RN (by rw[hn]),b,by rw[stay 1 d7 hn];exact c,d⟩
 ·have hn:addN o L=2:=aK7 (by rw[<-EF];exact h1) h2 h3;exact⟨_,rfl,RN (by rw[hn]),b,by rw[stay 2 d7 hn];exact c,d⟩
 ·have hn:addN o L=9:=by
   rw[Kc (by rw[<-EF];exact h1) h2 h3];obtain⟨s,l,x,A,u⟩:=f;rw[RF (by rw[<-u];exact c.aDc l A)]
  exact⟨_,rfl,RN (by rw[hn]),b,by rw[stay 9 d7 hn];exact c,d⟩
 ·have g:=c.len
  have hn:addN o L=12:=by
   rw[Kc (by rw[<-EF];exact h1) h2 h3,c.DK f,RD d7,RF o7]
  exact⟨_,rfl,RN (by rw[hn]),b,by rw[stay 12 d7 hn];exact c,d⟩
 ·have g:=c.len
  have hn:addN o L=0:=by
   rw[Kc (by rw[<-EF];exact h1) h2 h3,c.DK f,RD d7,RD o7]
  obtain⟨i,_⟩:fP 1 1000000 (eT o).price=G_/\fP 1 1000000 (eT o).ak=G_:=by simpa[iX]using h3
  have j:=tN i;refine⟨_,rfl,RP ⟨rfl,hn⟩,b',?_,d⟩;unfold fF;rw[RF hn,t,<-aXj];exact c.add l (by rw[aEi];exact p) j (λy B=>by have:=c.ok h.ok y B;omega) (by rw[aEh];exact c.none f)
def bCf{b:aU}(h:Bk w bb m b)(p:m+1<=900000)(f:bD b.S L)(id:Int)(v:(Tv .i64 id).wf=G_):
  Sj prog 103 #[E (A_ ⟨bb,0,B_⟩),U G id] w λe g=>∃err,e=Y (.tuple #[(KD id L).agg,err])/\JR err (tC id L)/\∃b',bD b'.S (kI id L)/\Goes w g bb (m+1) b b':=by
 rcases Hl b.S id with⟨s,n,x,q,rfl⟩|d
 ·obtain⟨k,hk,hi,ho⟩:=Md f n q;have a:¬dz x.o.id L=-1:=o7;have c:(dz x.o.id L).toNat=k:=o7;refine(KE bb m s b x w h p n q).mono ?_;rintro e g ⟨rfl,b',⟨i,j,l,r⟩,u⟩;refine⟨.nilIface,by unfold KD;rw[RD a,c,ho],RP ⟨rfl,by unfold tC;rw[RD a]⟩,b',?_,u⟩;unfold kI;rw[RD a,c,r];exact f.gone h.ok n j l hk (by rw[ho])
 ·have h1:=f.DK d;refine(Rt bb m b id w h v d).mono ?_;rintro e g ⟨rfl,t⟩;exact⟨_,by unfold KD;rw[RF h1],RN (by unfold tC;rw[RF h1]),b,by unfold kI;rw[RF h1];exact f,Goes.stay h t (Uk _) p⟩
def bCg{b:aU}(h:Bk w bb m b)(n:m+1<=900000)(d:bD b.S L)(id q:Int)(B:(Tv .i64 id).wf=G_):
  Sj prog 224 #[E (A_ ⟨bb,0,B_⟩),U G id,U G q] w λe g=>∃err,e=Y err/\JR err (wC id q L)/\∃b',bD b'.S (rT id q L)/\Goes w g bb (m+1) b b':=by
 rcases Hl b.S id with⟨s,f,x,l,rfl⟩|j
 ·obtain⟨k,hk,hi,ho⟩:=Md d f l;have c:¬dz x.o.id L=-1:=o7;have a:(dz x.o.id L).toNat=k:=o7
  by_cases r:q<1\/x.o.ak<q
  ·have h3:(decide (1<=q)&& decide (q<=(aO L k).ak))=E_:=by
    rw[ho];rcases r with r|r
    ·rw[RH o7];rfl
    ·rw[RH (p:=q<=x.o.ak) o7];exact Bool.and_false _
   refine(aPb bb m s b x q w h f l r).mono ?_;rintro e g ⟨rfl,t⟩;exact⟨_,rfl,RN (by unfold wC;rw[RD c,a,RF h3]),b,by unfold rT;rw[RD c,a,RF h3];exact d,Goes.stay h t (Uk _) n⟩
  ·have h3:¬(decide (1<=q)&& decide (q<=(aO L k).ak))=E_:=by
    rw[ho,RI (by omega:1<=q),RI (by omega:q<=x.o.ak)];decide
   by_cases A:q=x.o.ak
   ·subst A;refine(aO8 bb m s b x w h n f l o7).mono ?_;rintro e g ⟨rfl,b',⟨i,v,y,z⟩,u⟩;refine⟨_,rfl,RP ⟨rfl,by unfold wC;rw[RD c,a,RD h3]⟩,b',?_,u⟩;unfold rT;rw[RD c,a,RD h3,RF (by rw[ho]),z];exact d.gone h.ok f v y hk (by rw[ho])
   ·refine(aPa bb m s b x q w h n f l o7 o7).mono ?_;rintro e g ⟨rfl,u⟩;refine⟨_,rfl,RP ⟨rfl,by unfold wC;rw[RD c,a,RD h3]⟩,_,?_,u⟩;unfold rT;rw[RD c,a,RD h3,RD (by rw[ho];omega)];exact d.cut h.ok f l hk (by rw[ho])
 ·have h1:=d.DK j;refine(aO9 bb m b id q w h B j).mono ?_;rintro e g ⟨rfl,t⟩;exact⟨_,rfl,RN (by unfold wC;rw[RF h1]),b,by unfold rT;rw[RF h1];exact d,Goes.stay h t (Uk _) n⟩
def uJ(p:Int)(o:Ord):Bool:=if(o.kind == 2)=G_ then G_ else if(o.side == 1)=G_ then decide (p<=o.price)else decide (o.price<=p)
def bIq(a:s=1\/s=2)(ho:o.side=s):uJ p o=jR s p o:=by
 unfold uJ jR;rw[ho];rcases a with rfl|rfl
 ·by_cases h:(o.kind == 2)=G_
  ·rw[RF h,h];rfl
  ·rw[RD h,show(o.kind == 2)=E_ from Wx.2 h];simp
 ·by_cases h:(o.kind == 2)=G_
  ·rw[RF h,h];rfl
  ·rw[RD h,show(o.kind == 2)=E_ from Wx.2 h];simp
def KN(p:Int)(w:C_):Sj prog 221 #[U G p] w λe w'=>e=Y (.func (.func 238) #[] #[E (A_ ⟨w.heap.size,0,B_⟩)])/\w'=w.alloc (R #[U G p] 3):=by
 go_enter func221,ntmps221;go_wp2;go_ret;exact⟨rfl,rfl⟩
def aAj(p:Int)(o:Ord)(b:Nat)(w:C_)(h:w.heap[b]? = A_ (R #[U G p] 3 (0,0))):
  Sj prog 238 #[.agg #[U G o.id,U G o.side,U G o.kind,U G o.price,U G o.ak],E (A_ ⟨b,0,B_⟩)] w λe w'=>e=Y (.bool (uJ p o))/\Sd w.heap.size w w':=by
 have c:=aM w (R #[U G o.id,U G o.side,U G o.kind,U G o.price,U G o.ak] 155);have d:=aj (j:=0) (aL h c au) rfl;have a:Hid _:=c;clear h c;unfold uJ;cases hk:(o.kind == 2)with
 |true=>
  go_enter func238,ntmps238;go_wp2;go_ret;exact⟨rfl,a.out⟩
 |false=>
  cases hs:(o.side == 1)with
  |true=>
   go_enter func238,ntmps238;go_wp2;go_ret;exact⟨rfl,a.out⟩
  |false=>
   go_enter func238,ntmps238;go_wp2;go_ret;exact⟨rfl,a.out⟩
def aAi(bb m s:Nat)(b:aU)(L:List Ord)(w:C_)(h:Bk w bb m b)(d:bD b.S L)(f:s<2)(side:Int)(a:side=(s:Int)+1):
  Sj prog 219 #[E (A_ ⟨bb,0,B_⟩),U G side] w λe w'=>∃v,e=Y v/\w'.ownsRow w.heap.size 155 5 v (aP side L).length (oV (aP side L))/\Sd w.heap.size w w':=by
 have H:=ah h;have e1:(b.S s).map Ly.o=aP side L:=by rw[a];exact d.side s f
 have HE:=ah e1;have c:=ah a;clear h e1 d a;go_enter func219,ntmps219;go_wp2_with fail;refine(Iz bb m s b w H.out f side c.out).mono ?_;rintro e w1 ⟨v,rfl,h1,h2⟩;rw[HE.out,show(b.S s).length=(aP side L).length by rw[<-HE.out,TL]]at h1;have g:Hid _:=h1;have i:Hid _:=h2;clear h1 h2;go_wp2_with fail;go_ret;exact⟨v,rfl,g.out,i.out⟩
def aOt(s:Int)(a:s=1\/s=2)(w:C_):Sj prog 220 #[U G s] w λe w'=>e=Y (U G (3 - s))/\w'=w:=by
 rcases a with rfl|rfl
 ·go_enter func220,ntmps220;go_wp2;go_ret;exact⟨rfl,rfl⟩
 ·go_enter func220,ntmps220;go_wp2;go_ret;exact⟨rfl,rfl⟩
def aAh(o x:Ord)(p:Int)(w:C_)(a:(o.side == 2)=E_):
  Sj prog 223 #[.agg #[U G o.id,U G o.side,U G o.kind,U G o.price,U G o.ak],.agg #[U G x.id,U G x.side,U G x.kind,U G x.price,U G x.ak],U G p] w
   λe w'=>e=Y (.agg #[U G o.id,U G x.id,U G p,U G (min o.ak x.ak)])/\Sd w.heap.size w w':=by
 have b:=ah a;go_enter func223,ntmps223;go_wp2_with fail;refine UA (by simp[results,results223,go_sem];try rfl) rfl ?_;refine⟨rfl,?_⟩
 (repeat' first|assumption|exact RS _ _|exact au|refine TR ?_ ?_ _|refine Zh ?_ ?_ _|(simp;done)|(simp;omega))
def aOq(o x:Ord)(p:Int)(w:C_)(a:(o.side == 2)=G_):
  Sj prog 223 #[.agg #[U G o.id,U G o.side,U G o.kind,U G o.price,U G o.ak],.agg #[U G x.id,U G x.side,U G x.kind,U G x.price,U G x.ak],U G p] w
   λe w'=>e=Y (.agg #[U G x.id,U G o.id,U G p,U G (min x.ak o.ak)])/\Sd w.heap.size w w':=by
 have b:=ah a;go_enter func223,ntmps223;go_wp2_with fail;refine UA (by simp[results,results223,go_sem];try rfl) rfl ?_;refine⟨rfl,?_⟩
 (repeat' first|assumption|exact RS _ _|exact au|refine TR ?_ ?_ _|refine Zh ?_ ?_ _|(simp;done)|(simp;omega))
def nR(p:Int)(X:List Ord):Int:=(X.map λo=>if uJ p o=G_ then o.ak else 0).sum
def aEq(p:Int)(h:k<X.length):nR p (X.take (k+1))=nR p (X.take k)+(if uJ p (aO X k)=G_ then(aO X k).ak else 0):=by
 unfold nR;rw[SQ h,TY,List.sum_append,<-pG h];simp
def bGw{f:Ord->Int}{a b:List Ord}(h:a.Perm b):(a.map f).sum=(b.map f).sum:=by
 induction h with
 |nil=>rfl
 |cons x _ ih=>simp[ih]
 |swap x y l=>simp;omega
 |trans _ _ i1 i2=>exact i1.trans i2
def aEp(s p:Int)(a:s=1\/s=2):∀L:List Ord,nR p (lI s L)=dw s p L
 |[]=>rfl
 |o::L=>by
  have b:=aEp s p a L;rw[xG,<-b];unfold lI
  by_cases h:(o.side == s)=G_
  ·have e:(o::L).filter (λo=>o.side == s)=o::L.filter (λo=>o.side == s):=List.filter_cons_of_pos (by exact h);rw[e,h,Bool.true_and,<-bIq a (beq_iff_eq.1 h)];rfl
  ·have e:(o::L).filter (λo=>o.side == s)=L.filter (λo=>o.side == s):=List.filter_cons_of_neg (by exact h);rw[e,RD (by rw[show(o.side == s)=E_ from Wx.2 h];simp)];omega
def aXy(a:s=1\/s=2)(L:List Ord):nR p (aP s L)=dw s p L:=by
 rw[<-aEp s p a L];exact bGw (Ao _ _)
def aEo{p:Int}{X:List Ord}(h:∀o∈X,1<=o.ak/\o.ak<=1000000):∀k,k<=X.length->0<=nR p (X.take k)/\nR p (X.take k)<=1000000*(k:Int)
 |0,_=>by simp[nR]
 |k+1,hk=>by
  have b:=aEo (p:=p) h k o7;have a:=h (aO X k) (Ie o7);rw[aEq p o7];split<;>omega
def FN(bb m s:Nat)(b:aU)(L:List Ord)(p:Int)(z:Nat)(w:C_)(h:Bk w bb m b)(D:bD b.S L)(t:dZ L)(hs:s<2)(side:Int)(u:side=(s:Int)+1)(hp:w.heap[z]? = A_ (R #[U G p] 3 (0,0))):
  Sj prog 231 #[E (A_ ⟨bb,0,B_⟩),U G side,.func (.func 238) #[] #[E (A_ ⟨z,0,B_⟩)]] w λe w'=>e=Y (U G (dw side p L))/\Sd w.heap.size w w':=by
 have H:=ah h;have F:=ah D;have I:=ah hp;have J:Hid (∀o∈aP side L,1<=o.ak/\o.ak<=1000000):=λo ho=>(t.ok o (oo.1 ho).1).2.2
 have P:(aP side L).length<=100:=RV (ED _ _) (Ho h.ok D);have V:Hid (nR p (aP side L)=dw side p L):=aXy o7 L;have B:=ah u;clear h D hp t u;go_enter func231,ntmps231;go_wp2_with fail;refine(aAi bb m s b L w H.out F.out hs side B.out).mono ?_;rintro e w1 ⟨v,rfl,h1,h2⟩;obtain⟨xa,xc,rfl,_,_⟩:=lJ h1;have T:Hid _:=h1;have Q:=ah h2;have A:Hid (w1.heap[z]? = A_ (R #[U G p] 3 (0,0))):=aL I.out h2 au;clear h1 h2 F H I;generalize aP side L=X at *;go_wp2_with fail;go_loopw [7,9,14] (λu7 _ u14 wr=>∃k:Nat,k<=X.length/\u14=U G k/\u7=U G (nR p (X.take k))/\Sd w1.heap.size w1 wr) (λ_ _ u14 _=>X.length - (intOf u14).toNat)
 case atStart=>exact⟨0,Sv _,rfl,rfl,RS _ _⟩
 case round=>
  obtain⟨k,hk,rfl,rfl,y⟩:=hrel;have q:=ah y
  by_cases c:k<X.length
  ·have a1:(k:Int)<(X.length:Int):=o7;obtain⟨g,cap,e,d0,K,M,N,O⟩:=EB (jw T.out y au) c;injection e with e1 _ e2;subst e1 e2;have Z:=aEo (p:=p) J.out k hk;have C:=ah (aEq p c);have hq:=J.out (aO X k) (Ie c);generalize aO X k=x at d0 K M N O C hq;generalize nR p (X.take k)=n at *;clear y;go_wp2_with fail;have f:=aM wr (R #[U G x.id,U G x.side,U G x.kind,U G x.price,U G x.ak] 155);have i:=RU wr (R #[U G x.id,U G x.side,U G x.kind,U G x.price,U G x.ak] 155);generalize wr.alloc (R #[U G x.id,U G x.side,U G x.kind,U G x.price,U G x.ak] 155)=W at f i⊢;have r:=ah (aJ q.out f);refine(aAj p x z W (aL A.out r.out au)).mono ?_;rintro e w4 ⟨rfl,d⟩;have x4:=aj (j:=4) (aL i d au) rfl;have l:=ah (aJ r.out d);clear f i d d0 K M N O;cases hw:uJ p x with
   |true=>
    have a:Hid (nR p (X.take (k+1))=n+x.ak):=by have:=C.out;rw[hw,RF rfl]at this;exact this
    go_wp2_with fail;go_roundw
    case rel=>exact⟨k+1,c,by go_num,by rw[a.out],l.out⟩
    case measure=>simp[intOf];omega
   |false=>
    have a:Hid (nR p (X.take (k+1))=n):=by have:=C.out;rw[hw,RD d7]at this;rw[this];exact Int.add_zero _
    go_wp2_with fail;go_roundw
    case rel=>exact⟨k+1,c,by go_num,by rw[a.out],l.out⟩
    case measure=>simp[intOf];omega
  ·have a0:k=X.length:=o7;have a:Hid (nR p (X.take k)=nR p X):=by show _=_;rw[List.take_of_length_le o7]
   generalize nR p (X.take k)=n at *;clear y;go_wp2_with fail;go_ret;exact⟨by rw[a.out,V.out];rfl,aJ Q.out q.out⟩
end Go.Proofs.YtpodibeogglplaaGreatDoor
