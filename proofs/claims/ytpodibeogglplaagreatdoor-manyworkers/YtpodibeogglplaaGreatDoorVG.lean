/- ManyWorkers -/
import Derived.Test.YtpodibeogglplaaGreatDoorVF
import Derived.Shelf.Sort.Plain
import Derived.Shelf.Slices.In.SortNone2
import Derived.Shelf.SlIterI.Sorted
import Derived.Deep.Fields
open Go.RowKit Go.Shelf
open Go.Value renaming int->U, pointer->E, slice->J
open Go.IntKind renaming i64->G
open Go.Obj renaming cells->R
open Go.Ending renaming returned->Y
open Go.Proofs.Tryz
open Bool renaming true->G_, false->E_, eq_iff_iff->Vm, eq_false_iff->Wx, false_eq_true->SE
open Go renaming Value->D_, DataW->VN, MemPlace->Wn, World->C_, Calls->Sj, Addr->J_, info_parts->Vw, heap_alloc_new->RU, wpList_append_own_at->Xy, callsIn_wide->UY, lt_of_block->SK, below_regrown->Uh, cell_regrown->TJ, bodyPost_ret->UA
open Go.Fence renaming wide->Wv
open Go.Lit renaming int->Tv
open Go.Maps renaming atKey_put_same->Ww, atKey_put_other->Wm, has_put_same->Zp, has_put_other->Yi
open Go.RowKit renaming Below->Sd, intOf->YZ
open Go.RowKit.Below renaming refl->RS, heap_setCell->Xj, drew->Um, alloc->TR
open Go.Value renaming oneCell'->Vk, ownBlock->Uf
open Go.Value.slice renaming injEq->TD
open Go.World renaming ownsRow_nil->Uo, news_of_block->UL, ownsMap_made->Yk
open List renaming length_append->Sl, length_singleton->TG, take_succ_eq_append_getElem->SQ, filter_append->WL, length_filter_le->UC, length_take->Tq, take_length->Vd, length_map->TL, getElem_mem->Vn, mem_filter->Ua, mem_cons->SB, length_pos_of_mem->w_, filter_cons->Xm, length_cons->SC, filter_filter->Vi
open Nat renaming zero_le->Sv, le_trans->RV, zero_add->Vz, le_succ->Uk
open Option renaming some->A_, none->B_
open Or renaming inl->RP, inr->RN
set_option linter.all false
set_option maxHeartbeats 4000000
set_option maxRecDepth 4000
namespace Go.Proofs.YtpodibeogglplaaGreatDoor
def Bj:Maps.Keyed prog 3:=Maps.int_keyed underlying3
variable {a:Int} {v:D_} {y:VN Unit×List Wn} {b:Int} {o:Ord} {p:Int} {D:VN Unit} {w:C_} {B:Nat} {w':C_} {k:Nat} {F:List Ord} {ss:List Int} {n:Nat} {e:TypeId} {xs:List D_} {mb:Nat} {t:TypeId} {l:List Pt} {around:Int} {lb:Array D_} {nb:Nat}
def KO(h:(Tv .i64 a).wf=G_):keyOf prog 3 (.int .i64 a)=A_ (.int .i64 a):=Maps.keyOf_int_mk underlying3 h
def bJc(w:C_):(zeroValue 222).run prog w=.ok (.agg #[U G 0,U G 0]) w:=k7
def qx(v:D_):Option (VN Unit×List Wn):=
 match v with
 | .agg ⟨[.int .i64 a,.int .i64 b]⟩=>A_ (.agg [.lit (.int .i64 a),.lit (.int .i64 b)],[])
 |_=>B_
def qw(a b:Int):VN Unit:=.agg [.lit (.int .i64 a),.lit (.int .i64 b)]
def MH(a b:Int):qx (.agg #[U G a,U G b])=A_ (qw a b,[]):=rfl
def aEn(h:qx v=A_ y):∃a b:Int,v=.agg #[.int .i64 a,.int .i64 b]/\y=(qw a b,[]):=by
 unfold qx at h;split at h
 ·rename_i a b;exact⟨a,b,rfl,by simpa[qw]using h.symm⟩
 ·cases h
def aEm{a' b':Int}(h:qw a b=qw a' b'):a=a'/\b=b':=by simpa[qw]using h
def aXx{ps:List Wn}(h:qx v=A_ (qw a b,ps)):v=.agg #[U G a,U G b]:=by
 obtain⟨a',b',rfl,e⟩:=aEn h;obtain⟨rfl,rfl⟩:=aEm (Prod.mk.injEq ..▸e:qw a b=qw a' b'/\ps=[]).1;rfl
def LotD(D:VN Unit)(l:List Ord)(more:Int):Prop:=
 (∀p,D.atKey (.int .i64 p) (qw 0 0)=qw (aN (dV p) l) (aN (gy p) l))/\∀p,Maps.has D (.int .i64 p)=G_↔p∈jh l more
def He(a:Int):WideAt.IsKeyLit (Tv .i64 a):=trivial
def Hf(h:a≠b):(Tv .i64 a)≠Tv .i64 b:=λe=>h (by injection e)
def LotD.start{more:Int}(h:¬0<more):LotD (.map []) [] more:=by
 refine⟨λp=>rfl,λp=>?_⟩;rw[wZ];constructor
 ·intro e;cases e
 ·rintro(⟨h1,_⟩|⟨o,ho,_⟩)
  ·exact absurd h1 h
  ·cases ho
def LotD.more{more:Int}(h:0<more):LotD ((DataW.map []).put (.int .i64 more) (qw 0 0)) [] more:=by
 refine⟨λp=>?_,λp=>?_⟩
 ·by_cases e:p=more
  ·subst e;exact Ww ⟨_,rfl⟩ (He _) _ _
  ·rw[Wm (Hf e)];rfl
 ·rw[wZ]
  by_cases e:p=more
  ·subst e;rw[Zp ⟨_,rfl⟩ (He _)];simp[h]
  ·rw[Yi (Hf e)];constructor
   ·intro a;cases a
   ·rintro(⟨_,h1⟩|⟨o,ho,_⟩)
    ·exact absurd h1 e
    ·cases ho
def Cm(q:Ord->Bool)(l:List Ord)(o:Ord):aN q (l++[o])=aN q l+(if q o=G_ then o.ak else 0):=by
 unfold aN;rw[List.map_append,List.map_singleton,OW]
def aGw{l:List Ord}{more:Int}:p∈jh (l++[o]) more↔(p∈jh l more\/(mH o=G_/\o.price=p)):=by
 rw[wZ,wZ];constructor
 ·rintro(h|⟨x,a,h1,h2⟩)
  ·exact RP (RP h)
  ·rw[List.mem_append,List.mem_singleton]at a;rcases a with a|rfl
   ·exact RP (RN ⟨x,a,h1,h2⟩)
   ·exact RN ⟨h1,h2⟩
 ·rintro((h|⟨x,a,h1,h2⟩)|⟨h1,h2⟩)
  ·exact RP h
  ·exact RN ⟨x,by simp[a],h1,h2⟩
  ·exact RN ⟨o,by simp,h1,h2⟩
def LotD.same{l:List Ord}{more:Int}(h:LotD D l more)(hk:o.kind=2):LotD D (l++[o]) more:=by
 have hn:mH o=E_:=by unfold mH;simp[hk]
 refine⟨λp=>?_,λp=>?_⟩
 ·have e1:dV p o=E_:=by unfold dV;simp[hk]
  have e2:gy p o=E_:=by unfold gy;simp[hk]
  rw[h.1 p,Cm,Cm,e1,e2];simp
 ·rw[h.2 p,aGw,hn];simp
def LotD.put{l:List Ord}{more:Int}(h:LotD D l more)(a:Maps.IsMap D)(hn:mH o=G_):
  LotD (D.put (.int .i64 o.price) (qw (aN (dV o.price) (l++[o])) (aN (gy o.price) (l++[o])))) (l++[o]) more:=by
 refine⟨λp=>?_,λp=>?_⟩
 ·by_cases e:p=o.price
  ·subst e;exact Ww a (He _) _ _
  ·have e1:dV p o=E_:=by unfold dV;simp[Ne.symm e]
   have e2:gy p o=E_:=by unfold gy;simp[Ne.symm e]
   rw[Wm (Hf e),h.1 p,Cm,Cm,e1,e2];simp
 ·rw[aGw]
  by_cases e:p=o.price
  ·subst e;rw[Zp a (He _)];simp[hn]
  ·rw[Yi (Hf e),h.2 p];constructor
   ·exact RP
   ·rintro(h1|⟨_,h1⟩)
    ·exact h1
    ·exact absurd h1.symm e
def iL(w:C_)(B:Nat)(l:List Ord)(more:Int):Prop:=∃D,w.ownsMap prog 3 qx B (l.length+1) D/\Maps.IsMap D/\LotD D l more
def iL.lt{l:List Ord}{more:Int}(h:iL w B l more):B<w.heap.size:=by
 obtain⟨D,ho,_⟩:=h;exact ho.lt
def iL.block{l:List Ord}{more:Int}(h:iL w B l more)(d:w'.heap[B]? = w.heap[B]?):iL w' B l more:=by
 obtain⟨D,⟨es,a,e1,e2,b,c⟩,h2⟩:=h;exact⟨D,⟨es,a,d.trans e1,e2,b,c⟩,h2⟩
def iL.below{l:List Ord}{more:Int}(h:iL w B l more)(a:Sd w.heap.size w w'):iL w' B l more:=h.block (a.block B h.lt)
def iL.look{l:List Ord}{more:Int}(h:iL w B l more)(hp:(Tv .i64 p).wf=G_):
  (Instr.lookup 223 (.map (A_ B)) (.int .i64 p) E_).run prog w=.ok (.agg #[.int .i64 (aN (dV p) l),.int .i64 (aN (gy p) l)]) w:=by
 obtain⟨D,ho,c,b⟩:=h;obtain⟨v,ps,a,hv⟩:=ho.lookup Bj underlying223 (bJc w) (zd:=qw 0 0) (zp:=[]) rfl (KO hp);rw[b.1 p]at hv;rw[a,aXx hv]
def iL.store{w:C_}{B:Nat}{l:List Ord}{more:Int}{o:Ord}(h:iL w B l more)(hn:mH o=G_)(hp:(Tv .i64 o.price).wf=G_)(f:l.length<=1000):
  ∃w',(Instr.mapUpdate 223 (.map (A_ B)) (U G o.price) (.agg #[U G (aN (dV o.price) (l++[o])),U G (aN (gy o.price) (l++[o]))])).run prog w=.ok () w'/\iL w' B (l++[o]) more/\w.grownBy w' (A_ B):=by
 obtain⟨D,ho,b,c⟩:=h;obtain⟨w',e,a,d⟩:=ho.update Bj underlying223 (by unfold maxLen;omega) (KO hp) (MH _ _);refine⟨w',e,⟨_,?_,b.put _ _,c.put b hn⟩,d⟩;rw[Sl,TG];exact a
def iL.same{l:List Ord}{more:Int}(h:iL w B l more)(hk:o.kind=2):iL w B (l++[o]) more:=by
 obtain⟨D,ho,a,b⟩:=h;exact⟨D,ho.mono s7,a,b.same hk⟩
def vV(o:Ord)(a:Int):Int:=if o.side=1 then a+o.ak else a
def vW(o:Ord)(b:Int):Int:=if o.side=1 then b else b+o.ak
def aAk(a b:Int)(o:Ord)(w:C_)(f:-4000000000000000000<=a/\a<=4000000000000000000)(j:-4000000000000000000<=b/\b<=4000000000000000000)(ho:-1000000<=o.ak/\o.ak<=1000000):
  Sj prog 160 #[.agg #[U G a,U G b],.agg #[U G o.id,U G o.side,U G o.kind,U G o.price,U G o.ak]] w λe w'=>e=Y (.agg #[U G (vV o a),U G (vW o b)])/\Sd w.heap.size w w':=by
 obtain⟨g,i⟩:=f;obtain⟨k,l⟩:=j;obtain⟨m,n⟩:=ho
 by_cases d:o.side=1
 ·have c:Hid (vV o a=a+o.ak/\vW o b=b):=⟨RF d,RF d⟩;go_enter func160,ntmps160;go_wp2_with fail;go_returns;refine⟨by rw[c.out.1,c.out.2],?_⟩;go_grown
 ·have c:Hid (vV o a=a/\vW o b=b+o.ak):=⟨RD d,RD d⟩;go_enter func160,ntmps160;go_wp2_with fail;go_returns;refine⟨by rw[c.out.1,c.out.2],?_⟩;go_grown
def aOv(o:Ord)(w:C_):
  Sj prog 159 #[.agg #[U G o.id,U G o.side,U G o.kind,U G o.price,U G o.ak]] w λe w'=>e=Y (.bool (okO o))/\Sd w.heap.size w w':=by
 have a:Hid (okO o=(((o.side == 1) || (o.side == 2))&& (decide (1<=o.ak)&& decide (o.ak<=1000000)))):=by
  show okO o=_;unfold okO
  congr 1
  rw[Vm,Mf];simp;omega
 go_enter func159,ntmps159;go_wp2_with fail
 all_goals
  go_ret;refine⟨?_,gW w _⟩;rw[a.out]
  first|(simp[*];done)|(simp[*];omega)
def bBa{q:Ord->Bool}{l:List Ord}(h:k<l.length):(l.take (k+1)).filter q=if q (aO l k)=G_ then(l.take k).filter q++[aO l k]else(l.take k).filter q:=by
 rw[SQ h,WL,pG h]
 by_cases a:q l[k]=G_
 ·rw[RF a];simp[a]
 ·rw[RD a];simp[a]
def aOx(a:List Ord)(x:Ord):oV (a++[x])=oV a++[U G x.id,U G x.side,U G x.kind,U G x.price,U G x.ak]:=by rw[BS];rfl
def aV5:(prog.info? 155).map (λi=>(i.zero,i.size,i.bytes))=A_ (A_ (.agg #[U G 0,U G 0,U G 0,U G 0,U G 0]),5,40):=k7
def AP(w:C_)(b:Nat)(o:Ord):Prop:=w.heap[b]? = A_ (R #[U G o.id,U G o.side,U G o.kind,U G o.price,U G o.ak] 155 (0,0))
def AP.below{b:Nat}(h:AP w b o)(a:Sd w.heap.size w w'):AP w' b o:=rR h a
def aOw(a:Option J_)(cap:Nat)(l:List Ord)(w:C_)(h:jV w a l)(V:l.length<=1000):
  Sj prog 158 #[J a l.length cap,.func (.func 159) #[] #[]] w λe w'=>∃v',e=Y v'/\w'.ownsRow w.heap.size 155 5 v' (l.filter okO).length (oV (l.filter okO))/\Sd w.heap.size w w':=by
 obtain⟨T,K,F,H,I⟩:=Vw aV5;have Q:=ah h;clear h;go_enter func158,ntmps158;go_wp2_with fail;go_loopw [5,10] (λv i wr=>∃k:Nat,k<=l.length/\i=U G k/\wr.ownsRow w.heap.size 155 5 v ((l.take k).filter okO).length (oV ((l.take k).filter okO))/\Sd w.heap.size w wr) (λ_ i _=>l.length - (YZ i).toNat)
 case atStart=>exact⟨0,Sv _,rfl,Uo _ _ _ _,RS _ _⟩
 case round=>
  obtain⟨k,hk,rfl,f,D⟩:=hrel;have z:=ah f;have E:=ah D
  have A:((l.take k).filter okO).length<=1000:=by
   have:=UC okO (l.take k);rw[Tq]at this;omega
  obtain⟨L,B,rfl,_,_⟩:=wo f;clear f
  by_cases o:k<l.length
  ·have S:(k:Int)<(l.length:Int):=o7;obtain⟨b,off,rfl,d0,M,N,O,P⟩:=Q.out.below D k o;have u:Hid ((l.take (k+1)).filter okO=if okO (aO l k)=G_ then(l.take k).filter okO++[aO l k]else(l.take k).filter okO):=bBa o;clear D;generalize aO l k=x at d0 M N O P u;generalize(l.take k).filter okO=acc at u z A;go_wp2_with fail;have C:AP (wr.alloc (R #[U G x.id,U G x.side,U G x.kind,U G x.price,U G x.ak] 155)) wr.heap.size x:=RU wr _;have m:=gW wr (R #[U G x.id,U G x.side,U G x.kind,U G x.price,U G x.ak] 155);generalize wr.alloc (R #[U G x.id,U G x.side,U G x.kind,U G x.price,U G x.ak] 155)=W at C m⊢;generalize wr.heap.size=xb at C⊢;refine(aOv x W).mono ?_;rintro e w4 ⟨rfl,g⟩;have c:=C.below g;have r:Hid (w4.ownsRow w.heap.size 155 5 (J L acc.length B) acc.length (oV acc)):=Bf z.out (cZ m g) au;have d:=ah (cZ E.out (cZ m g));clear C m g z E d0 M N O P;cases y:okO x with
   |true=>
    have p:Hid ((l.take (k+1)).filter okO=acc++[x]):=by rw[u.out,RF y];rfl
    have Z:=bT (j:=0) c rfl;have y1:=bT (j:=1) c rfl;have y2:=bT (j:=2) c rfl;have y3:=bT (j:=3) c rfl;have y4:=bT (j:=4) c rfl;clear u y c;go_wp2_with (at_builtin;refine Xy _ rfl _ _ 127 rfl w.heap.size 155 T (.agg #[U G 0,U G 0,U G 0,U G 0,U G 0]) 5 40 underlying127 K F H I rfl d7 _ acc.length (oV acc) rfl (r.out.alloc _) ⟨w4.heap.size,0,B_⟩ 1 1 [U G x.id,U G x.side,U G x.kind,U G x.price,U G x.ak] rfl rfl (UL (cs:=#[U G x.id,U G x.side,U G x.kind,U G x.price,U G x.ak]) (t:=155) (fr:=(0,0)) (RU w4 _)) (by simp[Vk]) (by unfold maxLen;omega) o7 (by have:=d.out.size;simp;omega) ?_;intro v' X s n _ _);go_roundw
    case rel=>
     refine⟨k+1,o,by go_num,?_,(d.out.alloc d.out.size _).grown n (by have:=d.out.size;simp;omega) (λq y=>(r.out.lt q y).1)⟩;rw[p.out,aOx,Sl,TG];exact s
    case measure=>simp[YZ];omega
   |false=>
    have p:Hid ((l.take (k+1)).filter okO=acc):=by rw[u.out,RD (by rw[y];decide)];rfl
    clear u y c;go_wp2_with fail;go_roundw
    case rel=>exact⟨k+1,o,by go_num,by rw[p.out];exact r.out,d.out⟩
    case measure=>simp[YZ];omega
  ·obtain rfl:k=l.length:=o7;rw[Vd]at z A⊢;clear D;go_wp2_with fail;go_ret;exact⟨_,rfl,z.out,E.out⟩
def aW9:Go.Shelf.Ren:=⟨fun|189=>236|125=>248|257=>247|128=>259|129=>175|294=>250|295=>251|296=>252|297=>253|298=>254|299=>255|216=>256|300=>257|301=>258|328=>261|329=>262|330=>263|331=>264|332=>265|215=>266|343=>267|n=>n,fun|28=>99|0=>0|3=>3|46=>46|51=>39|53=>36|4=>4|183=>325|182=>324|131=>329|5=>5|9=>9|218=>332|222=>335|228=>337|229=>125|n=>n,fun|n=>n⟩
def aD3:Go.Proofs.Lays.n189 prog aW9:=g7
section
open Go.Maps Go.Sort
def aD5:Go.Shelf.Ren:=⟨fun|7=>203|10=>237|n=>n,fun|23=>223|26=>3|3=>222|28=>272|0=>0|27=>271|33=>98|4=>4|n=>n,λn=>n⟩
def aD4:Go.Proofs.SlLaysZI.n7 prog aD5:={
 mixed:=k7
 f7:=⟨f203.name,k7,func203.trans (RJ A_ k7)⟩
 f10:=⟨f237.name,k7,func237.trans (RJ A_ k7)⟩
 t0:=underlying0
 a0:=isAgg0
 z0:=sizeOf0
 v0:=zeroValue0
 t4:=underlying4
 a4:=isAgg4
 z4:=sizeOf4
 v4:=zeroValue4
 t23:=underlying223
 a23:=isAgg223
 z23:=sizeOf223
 v23:=zeroValue223
 t26:=underlying3
 a26:=isAgg3
 z26:=sizeOf3
 v26:=zeroValue3
 t27:=underlying271
 a27:=isAgg271
 z27:=sizeOf271
 v27:=zeroValue271
 t28:=underlying272
 a28:=isAgg272
 z28:=sizeOf272
 v28:=zeroValue272
 t33:=underlying98
 a33:=isAgg98
 z33:=sizeOf98
 v33:=zeroValue98 }
def aD6:Go.Shelf.Ren:=⟨fun|6=>202|8=>235|9=>236|11=>246|n=>n,fun|26=>3|28=>272|24=>99|0=>0|3=>3|33=>98|4=>4|n=>n,λn=>n⟩
def aXa:Go.Proofs.SlLaysZI.n6 prog aD6:={
 mixed:=k7
 f6:=⟨f202.name,k7,func202.trans (RJ A_ k7)⟩
 f8:=⟨f235.name,k7,func235.trans (RJ A_ k7)⟩
 f11:=⟨f246.name,k7,func246.trans (RJ A_ k7)⟩
 t0:=underlying0
 a0:=isAgg0
 z0:=sizeOf0
 v0:=zeroValue0
 t24:=underlying99
 a24:=isAgg99
 z24:=sizeOf99
 v24:=zeroValue99
 t26:=underlying3
 a26:=isAgg3
 z26:=sizeOf3
 v26:=zeroValue3
 t28:=underlying272
 a28:=isAgg272
 z28:=sizeOf272
 v28:=zeroValue272
 i26:=by kernel_rfl }
def bF0(m:Nat):AnyZI.SortsIn prog aD6 Wv m:=
 ⟨λblk off cap ss W c a b=>UY.2 (Any.slices_Sort_int { aD3 with } blk off cap ss W c a b),
  λp cap W=>UY.2 (Any.slices_Sort_int_none { aD3 with } p cap W)⟩
def aWq(mb:Option Nat)(W:C_):Sj prog 203 #[.map mb] W λe w'=>e=Y (.func (.func 237) #[] #[E (A_ ⟨W.heap.size,0,B_⟩)])/\w'=W.alloc (R #[.map mb] 223):=
 (UY (n:=5)).1 (AnyZI.keys_in aD4 Wv 5 trivial rfl mb W)
def bFy{R:D_->Option (VN Unit×List Wn)}(b nn:Nat)(D0:VN Unit)(w:C_)(a:w.ownsMap prog 3 R b nn D0)(g:Maps.size D0<=100000):
  Sj prog 202 #[.func (.func 237) #[] #[.pointer (A_ ⟨w.heap.size,0,B_⟩)]] (w.alloc (.cells #[.map (A_ b)] 223)) λe w'=>∃(v:D_) (ss:List Int),e=.returned v/\ss.Perm (intKeys D0)/\
   w'.ownsRow (w.alloc (.cells #[.map (A_ b)] 223)).heap.size 3 1 v ss.length ((ss.mergeSort (λx y=>decide (x<=y))).map encZ)/\(v=.slice B_ 0 0↔ss=[])/\Sd (w.alloc (.cells #[.map (A_ b)] 223)).heap.size (w.alloc (.cells #[.map (A_ b)] 223)) w':=by
 have f:=a.lt
 have d:SeqGives Wv 2 prog 237 #[.pointer (A_ ⟨w.heap.size,0,B_⟩)] encZ (λss=>ss.Perm (intKeys D0)) (Maps.size D0) (w.alloc (.cells #[.map (A_ b)] 223)):=
  AnyZI.keys_gives (ρ:=aD5) { aD4 with } Wv _ trivial rfl o7 w.heap.size b nn D0 _ s7 s7 (by
   obtain⟨es,c,l,i,m,k⟩:=a;exact⟨es,c,(Below.heap_alloc _ _ b f).trans l,i,m,k⟩)
 have j:=AnyZI.sorted_in aXa Wv 5 trivial trivial trivial trivial rfl o7 (bF0 _) (enters_of func236 k7 rfl) 237 #[.pointer (A_ ⟨w.heap.size,0,B_⟩)] trivial (enters_of func237 k7 rfl) _ _ (by unfold maxLen;omega) o7 _ d;exact(UY (n:=5)).1 j
end
def aV1:(prog.info? 218).map (λi=>(i.zero,i.size,i.bytes))=A_ (A_ (.agg #[U G 0,U G 0,U G 0]),3,24):=k7
def aX1{more:Int}(h:LotD D F more){b:Lit}{x:Int}(hk:b=.int .i64 x){c:Int×Int}(hv:qx (.agg #[.int .i64 c.1,.int .i64 c.2])=A_ y)(a:∀zd,D.atKey b zd=y.1):c.1=aN (dV x) F/\c.2=aN (gy x) F:=by
 subst hk;have h1:=h.1 x;rw[a]at h1;rw[MH]at hv;cases hv;exact aEm h1
def aGx{more:Int}(h:LotD D F more){left:Lit->Bool}(a:CollectedI D left ss)(b:∀kl,left kl=E_):ss.Nodup/\∀p,p∈ss↔p∈jh F more:=
 ⟨a.1,λp=>by rw[a.2 p,h.2 p,b];simp⟩
def aZv{more:Int}(h:LotD D F more){left:Lit->Bool}(c:CollectedI D left ss)(d:∀kl,left kl=E_)(ho:w.ownsMap prog 3 qx B n D){b:List Int}(hp:b.Perm (intKeys D)):(kD b).Pairwise (· < ·)/\(∀p,p∈kD b↔p∈jh F more)/\∀p∈kD b,(Tv .i64 p).wf=G_:=by
 have h1:=c.perm ho Bj underlying3 d;have h2:b.Nodup:=(hp.trans h1.symm).nodup_iff.2 c.1;refine⟨bFz h2,λp=>?_,λp a=>?_⟩
 ·rw[Ci,(hp.trans h1.symm).mem_iff];exact(aGx h c d).2 p
 ·rw[Ci,hp.mem_iff]at a;exact intKeys_wf ho underlying3 p a
def aT8(a b:Int)(W:C_):(Instr.field 222 (.agg #[U G a,U G b]) 0).run prog W=.ok (U G a) W:=k7
def aT9(a b:Int)(W:C_):(Instr.field 222 (.agg #[U G a,U G b]) 1).run prog W=.ok (U G b) W:=k7
def aHm{a:Nat}{size:Nat}{row:Option Nat}(h:w.ownsRow a e size v n xs)(c:w.grownBy w' row)(b:∀k,v.ownBlock=A_ k->row≠A_ k):w'.ownsRow a e size v n xs:=by
 refine⟨h.1,h.2.imp id (λ⟨g,cap,cur,e1,hb,hh,r⟩=>⟨g,cap,cur,e1,hb,(c.block g (SK hh) (λe2=>b g (by rw[e1];rfl) e2.symm)).trans hh,r⟩)⟩
def bD7{f a:Nat}{m:TypeId}{size d:Nat}{v':D_}{s:Nat}{i:List D_}(h:w.ownsRow f e size v n xs)(p:w.ownsRow a m d v' s i)(r:e≠m):∀k,v.ownBlock=A_ k->v'.ownBlock≠A_ k:=λk hv c=>by
 rcases h.2 with⟨rfl,_⟩|⟨g,cap,o,rfl,_,q,_⟩
 ·simp[Uf]at hv
 ·rcases p.2 with⟨rfl,_⟩|⟨g',j,l,rfl,_,b,_⟩
  ·simp[Uf]at c
  ·simp[Uf]at hv c;subst hv;subst c;rw[q]at b;simp at b;exact r b.2
def aOz(B:Nat)(F:List Ord)(more:Int)(w:C_)(hL:iL w B F more)(hF:∀o∈F,okO o=G_)(L:F.length<=1000):
  Sj prog 161 #[.map (A_ B),.agg #[U G (aN iH F),U G (aN iT F)]] w λe w'=>∃(v':D_) (xs:List Int),e=Y v'/\xs.Pairwise (· < ·)/\(∀p,p∈xs↔p∈jh F more)/\w'.ownsRow w.heap.size 218 3 v' (pO xs F).length (eX (pO xs F))/\Sd w.heap.size w w':=by
 obtain⟨iP,d5,c7,c8,c9⟩:=Vw aV1;have HL:=ah hL;have A:=ah hF;obtain⟨D,ho,hD,c6⟩:=hL;have HO:=ah ho;have HD:Hid (LotD D F more):=c6;have g2:=ho.size_le;have h1:=ru (q:=iH) hF L;have h2:=ru (q:=iT) hF L;clear ho hD c6 hF;go_enter func161,ntmps161;go_wp2_with fail;go_quiet (fail);have a4:Sd w.heap.size w ((w.alloc (R #[U G (aN iH F),U G (aN iT F)] 222)).drewN nq):=below_drewN (gW w _) _;have z:=ah a4
 have b6:Hid (((w.alloc (R #[U G (aN iH F),U G (aN iT F)] 222)).drewN nq).ownsMap prog 3 qx B (F.length+1) D):=by
  obtain⟨es,a2,e1,e2,e3,e4⟩:=HO.out;exact⟨es,a2,(a4.block B HO.out.lt).trans e1,e2,e3,e4⟩
 clear a4;generalize(w.alloc (R #[U G (aN iH F),U G (aN iT F)] 222)).drewN nq=W at z b6⊢;have hM:aN iH F=aN iH F+dh dV [] F:=by rw[aIy];omega
 have HM:=ah hM.symm;clear hM;go_wp2_with (first|(at_range;refine wpList_range_own _ rfl _ 223 rfl 3 222 Bj underlying223 _ B (F.length+1) _ rfl b6.out ?_;intro w0 Q d3 g0)|go_in);go_frame;have b8:=ah Q;have b1:Hid (Sd w.heap.size w w0):=z.out.grown d3 z.out.size (λq hq=>by cases hq);clear Q d3 g0;go_loopw [5] (λv wr=>∃(left:Lit->Bool) (cnt:Nat) (ss:List Int),v=U G (aN iH F+dh dV ss F)/\wr.ranges prog 3 qx B W.heap.size (F.length+1) D left cnt/\CollectedI D left ss/\Sd w.heap.size w wr) (λ_ wr=>wr.rangeLeft B W.heap.size)
 case atStart=>exact⟨_,_,[],by rw[HM.out],b8.out,CollectedI.start D,b1.out⟩
 case round=>
  obtain⟨left,cnt,ss,rfl,e0,hC,hb⟩:=hrel;have H:=ah e0;have HC:=ah hC;have m:=ah hb;have f5:0<=dh dV ss F/\dh dV ss F<=1000000000:=by rw[EK hC.1];exact ru A.out L
  clear e0 hC hb b8 b1 HM;go_wp2_with (first|(at_next;refine wpList_next_ranges _ rfl _ rfl 3 Bj qx (Value.int .i64) (λc:Int×Int=>.agg #[U G c.1,U G c.2]) (λh4 kl hk=>by obtain⟨x,hx,_⟩:=Maps.keyOf_i64 underlying3 hk;exact⟨x,hx⟩) (λv y hv=>by obtain⟨a,b,hx,_⟩:=aEn hv;exact⟨(a,b),hx⟩) B W.heap.size (F.length+1) _ _ _ rfl H.out ?_ ?_)|go_in)
  ·intro f6 a8;have Z:=ah H.out.owns;have a0:=ah (aGx HD.out HC.out a8);have b5:Hid (∀{W3:C_},W3.ownsMap prog 3 qx B (F.length+1) D->∀{N:List Int},N.Perm (intKeys D)->(kD N).Pairwise (· < ·)/\(∀p,p∈kD N↔p∈jh F more)/\∀p∈kD N,(Tv .i64 p).wf=G_):=λf4 _ hp=>aZv HD.out HC.out a8 f4 hp
   clear f6 a8 H HC;go_wp2_with (first|(at_len;refine wpList_len_own _ rfl _ 223 rfl 3 222 underlying223 _ B (F.length+1) D rfl Z.out ?_)|(at_make;refine wpList_make_own _ rfl _ _ 167 rfl wr.heap.size 218 iP (.agg #[U G 0,U G 0,U G 0]) 3 underlying167 d5 c7 c8 _ _ _ (Maps.size D) rfl rfl rfl (by rw[c9];omega) (by unfold maxLen;omega) au ?_;intro w3 u a7));refine(aWq (A_ B) w3).mono ?_;rintro e w4 ⟨rfl,g3⟩;subst g3;have V:Hid (Sd w.heap.size w w3):=m.out.grown a7 m.out.size (λq hq=>by cases hq);have E:Hid (w3.ownsMap prog 3 qx B (F.length+1) D):=Z.out.kept a7 s7;have c2:=ah (qB u m.out.size);clear u a7 Z;go_wp2_with fail;refine(bFy B (F.length+1) D w3 E.out o7).mono ?_;rintro e w5 ⟨v5,N,rfl,hp,T,_,d1⟩;obtain⟨e6,e7,e8⟩:=b5.out E.out hp;have r:Sd w3.heap.size w3 w5:=cZ (gW w3 _) d1;have b3:=ah (cZ V.out r);have c3:Hid (w5.ownsRow w.heap.size 218 3 (J (A_ ⟨wr.heap.size,0,B_⟩) 0 (Maps.size D)) 0 []):=Bf c2.out r au
   have C:Hid (w5.ownsRow w.heap.size 3 1 v5 (kD N).length (ints (kD N))):=by
    rw[OD];exact qB T (RV V.out.size (gW w3 _).size)
   have g4:(kD N).length<=1001:=by
    rw[OD,hp.length_eq];have:=g2;obtain⟨es,rfl,_⟩:=E.out.keysOf;simp only[intKeys,TL];rw[Maps.size_eq]at this;omega
   have j:=ah e6;have K:=ah e7;have c4:=ah e8;clear hp T d1 r e6 e7 e8 b5 E V c2 m;generalize kD N=xs at C g4 j K c4;have c1:Hid (dh dV ss F=dh dV (xs.drop 0) F):=bGt a0.out.1 (EA j.out) (λp=>by rw[a0.out.2,K.out]) F;have b4:Hid (∀o∈F,mH o=G_->o.price∈xs):=λo ho hn=>(K.out _).2 (wZ.2 (RN ⟨o,ho,hn,rfl⟩))
   rw[c1.out];have d0:aN iT F=aN iT F+dh gy (xs.take 0) F:=by rw[List.take_zero,aIy];omega
   have b9:=ah d0;clear c1 a0 d0 f5;obtain⟨ai,ci,rfl,_,_⟩:=wo C.out;go_wp2_with fail;go_loopw [5,6,9,11,33] (λd s o _ i w6=>∃k:Nat,k<=xs.length/\i=U G k/\d=U G (aN iH F+dh dV (xs.drop k) F)/\s=U G (aN iT F+dh gy (xs.take k) F)/\w6.ownsRow w.heap.size 218 3 o (pO (xs.take k) F).length (eX (pO (xs.take k) F))/\w6.ownsRow w.heap.size 3 1 (J ai xs.length ci) xs.length (ints xs)/\Sd w.heap.size w w6) (λ_ _ _ _ i _=>xs.length - (YZ i).toNat)
   case atStart=>exact⟨0,Sv _,rfl,rfl,by rw[<-b9.out],c3.out,C.out,b3.out⟩
   case round=>
    obtain⟨k,hk,rfl,rfl,rfl,ho,hi,hb⟩:=hrel;have HW:=ah ho;have HI:=ah hi;have m:=ah hb
    have f7:(pO (xs.take k) F).length<=1001:=by
     unfold pO;rw[TL,Tq];omega
    obtain⟨h5,g7,rfl,_,_⟩:=wo ho;clear c3 C b3 b9 ho
    by_cases f:k<xs.length
    ·have a9:(k:Int)<(xs.length:Int):=o7;obtain⟨g,g5,hv,_,_⟩:=hi.form o7;simp only[TD,true_and]at hv;obtain⟨rfl,rfl⟩:=hv;have c0:wr.cell? ⟨g,k,B_⟩=A_ (U G (xs.getD k 0)):=(hi.cellAt k o7).trans (aWe f)
     have P:xs.getD k 0∈xs:=by
      rw[List.getD_eq_getElem?_getD,List.getElem?_eq_getElem f];exact Vn f
     have a1:Hid ((Tv .i64 (xs.getD k 0)).wf=G_):=c4.out _ P;have I:Hid (dh gy (xs.take (k+1)) F=dh gy (xs.take k) F+aN (gy (xs.getD k 0)) F):=bGv F f;have X:Hid (dh dV (xs.drop k) F=aN (dV (xs.getD k 0)) F+dh dV (xs.drop (k+1)) F):=bGu F f
     have n:Hid (pO (xs.take (k+1)) F=pO (xs.take k) F++[⟨xs.getD k 0,aN iH F+dh dV (xs.drop k) F,aN iT F+dh gy (xs.take k) F+aN (gy (xs.getD k 0)) F⟩]):=by
      rw[bCk F f,aPp A.out j.out b4.out f,<-bGy A.out j.out b4.out f,I.out,Int.add_assoc];rfl
     have M:=(HL.out.below hb).look a1.out;have d8:=ru (q:=dV (xs.getD k 0)) A.out L;have d9:=ru (q:=gy (xs.getD k 0)) A.out L
     have f8:0<=dh dV (xs.drop k) F/\dh dV (xs.drop k) F<=1000000000:=by
      rw[EK ((EA j.out).sublist (List.drop_sublist ..))];exact ru A.out L
     have f9:0<=dh gy (xs.take k) F/\dh gy (xs.take k) F<=1000000000:=by
      rw[aIw ((EA j.out).sublist (List.take_sublist ..))];exact ru A.out L
     clear hb hi P;generalize xs.getD k 0=p at c0 a1 I X n M d8 d9;generalize f2:dh dV (xs.drop k) F=dk at X n f8⊢;generalize f3:dh gy (xs.take k) F=sk at I n f9⊢;generalize pO (xs.take k) F=acc at n HW f7⊢;clear f2 f3;have g9:=aT8;have h0:=aT9;go_wp2_with (at_builtin;refine Xy _ rfl _ _ 167 rfl w.heap.size 218 iP (.agg #[U G 0,U G 0,U G 0]) 3 24 underlying167 d5 c7 c8 c9 rfl d7 _ acc.length (eX acc) rfl (HW.out.alloc _) ⟨wr.heap.size,0,B_⟩ 1 1 [U G p,U G (aN iH F+dk),U G (aN iT F+sk+aN (gy p) F)] rfl rfl (UL (cs:=#[U G p,U G (aN iH F+dk),U G (aN iT F+sk+aN (gy p) F)]) (t:=218) (fr:=(0,0)) (RU wr _)) (by simp[Vk]) (by unfold maxLen;omega) o7 (by have:=m.out.size;simp;omega) ?_;intro v' w6 b0 l _ _;have d2:=(m.out.alloc m.out.size _).grown l (by have:=m.out.size;simp;omega) (λq hq=>(HW.out.lt q hq).1);have g6:=(HL.out.below d2).look a1.out);go_roundw
     case rel=>
      refine⟨k+1,f,by go_num,?_,?_,?_,aHm (HI.out.alloc _) l (bD7 (w:=wr) HI.out HW.out d7),d2⟩
      ·rw[X.out];congr 1;omega
      ·rw[I.out,Int.add_assoc]
      ·rw[n.out,aGz,Sl,TG];exact b0
     case measure=>simp[YZ];omega
    ·obtain rfl:k=xs.length:=o7;rw[Vd]at HW⊢;clear hb hi;go_wp2_with fail;go_ret;exact⟨_,xs,rfl,j.out,K.out,HW.out,m.out⟩
  ·intro x ca cb kl yd yp w2 c5 O M hv a3 S a9 d4 g1 g8;obtain⟨x',e5,d6,h3⟩:=Maps.keyOf_i64 underlying3 O;obtain rfl:x=x':=by simpa using e5
   obtain⟨a5,a6⟩:=aX1 (c:=(ca,cb)) HD.out d6 hv a3;replace a5:ca=_:=a5;replace a6:cb=_:=a6;subst a5 a6 d6;have b7:=ah S;have e9:=ah (HC.out.step M a3);have b2:Hid (Sd w.heap.size w w2):=m.out.grown d4 m.out.size (λq hq=>by cases hq;exact z.out.size);have f0:=ah a9;have f1:Hid (dh dV (ss++[x]) F=dh dV ss F+aN (dV x) F):=aI0 _ _ _ _;have d8:=ru (q:=dV x) A.out L;have d9:=ru (q:=gy x) A.out L;clear O M hv a3 S a9 d4 g1 e5;go_wp2_with fail;go_roundw
   case rel=>exact⟨_,c5,ss++[x],by rw[f1.out,Int.add_assoc],b7.out.alloc _,e9.out,b2.out.alloc b2.out.size _⟩
   case measure=>rw[(b7.out.alloc _).left_eq,H.out.left_eq];exact f0.out
section
open Go.ChangeShapes Go.WideShapes Go.ChangeAt
def ET(z:Int):Prop:=(Tv .i64 z).wf=G_
end
def sP(w:C_)(mb:Nat)(a b:Int):Prop:=w.heap[mb]? = A_ (R #[U G a,U G b] 222 (0,0))
def sP.below(h:sP w mb a b)(c:Sd w.heap.size w w'):sP w' mb a b:=rR h c
def sP.set(h:sP w mb a b)(a' b':Int):sP ((w.setCell ⟨mb,0,B_⟩ (U G a')).setCell ⟨mb,1,B_⟩ (U G b')) mb a' b':=
 qc (j:=1) _ (qc (j:=0) (U G a') h)
def aHo{a:Nat}{size:Nat}{j:Nat}{vs:Array D_}{u:D_}(h:w.ownsRow a e size v n xs)(c:w.heap[mb]? = A_ (R vs t (0,0)))(d:e≠t):(w.setCell ⟨mb,j,B_⟩ u).ownsRow a e size v n xs:=by
 refine⟨h.1,h.2.imp id (λ⟨g,cap,cur,e1,hg,hh,r⟩=>⟨g,cap,cur,e1,hg,(Xj _ _ _ _ (λe2=>?_)).trans hh,r⟩)⟩;have b:=e2;rw[b,c]at hh;simp at hh;exact d hh.2.symm
def bD5{a:Nat}{size:Nat}{l:List Ord}{more:Int}(h:w.ownsRow a e size v n xs)(d:iL w B l more):∀k,v.ownBlock=A_ k->(A_ B:Option Nat)≠A_ k:=λk hk e2=>by
 obtain⟨D,⟨es,b,e1,_⟩,_⟩:=d;rcases h.2 with⟨rfl,_⟩|⟨g,cap,c,rfl,_,f,_⟩
 ·simp[Uf]at hk
 ·simp[Uf]at hk;injection e2 with e2;subst hk;subst e2;rw[f]at e1;simp at e1
def aLk(h:k<F.length)(ho:aO F k=o)(hk:o.kind=2):vV o (aN iH (F.take k))=aN iH (F.take (k+1)):=by
 rw[OQ _ h,ho];unfold vV iH
 by_cases a:o.side=1<;>simp[a,hk]
def aLl(h:k<F.length)(ho:aO F k=o)(hk:o.kind=2):vW o (aN iT (F.take k))=aN iT (F.take (k+1)):=by
 rw[OQ _ h,ho];unfold vW iT
 by_cases a:o.side=1<;>simp[a,hk]
def aLi(l:List Ord)(hk:o.kind≠2):vV o (aN (dV o.price) l)=aN (dV o.price) (l++[o]):=by
 rw[Cm];unfold vV dV
 by_cases a:o.side=1<;>simp[a,hk]
def aLj(l:List Ord)(hk:o.kind≠2):vW o (aN (gy o.price) l)=aN (gy o.price) (l++[o]):=by
 rw[Cm];unfold vW gy
 by_cases a:o.side=1<;>simp[a,hk]
def aO0(h:k<F.length):F.take (k+1)=F.take k++[aO F k]:=by rw[SQ h,pG h]
def aZd(h:okO o=G_)(hk:o.kind≠2):mH o=G_:=by unfold mH;rw[h];simp[hk]
def aXz(w:C_)(o:Obj)(more:Int)(a:¬0<more):iL ((w.alloc o).alloc (.map #[] 0)) (w.heap.size+1) [] more:=by
 have h:=Yk (w.alloc o) prog 3 qx;rw[show(w.alloc o).heap.size=w.heap.size+1 by simp]at h;exact⟨_,h.mono s7,⟨_,rfl⟩,LotD.start a⟩
def aX0(w:C_)(o:Obj){more:Int}(c:0<more)(e:(Tv .i64 more).wf=G_):
  ∃w',(Instr.mapUpdate 223 (.map (A_ (w.heap.size+1))) (U G more) (.agg #[U G 0,U G 0])).run prog ((w.alloc o).alloc (.map #[] 0))=.ok () w'/\iL w' (w.heap.size+1) [] more/\((w.alloc o).alloc (.map #[] 0)).grownBy w' (A_ (w.heap.size+1)):=by
 have h:=Yk (w.alloc o) prog 3 qx;rw[show(w.alloc o).heap.size=w.heap.size+1 by simp]at h;obtain⟨w',d,a,b⟩:=h.update Bj underlying223 (by unfold maxLen;omega) (KO e) (MH _ _);exact⟨w',d,⟨_,a.mono s7,⟨_,rfl⟩,LotD.more c⟩,b⟩
def aOy(a:Option J_)(cap:Nat)(l:List Ord)(more:Int)(w:C_)(h:jV w a l)(hl:l.length<=1000)(hw:∀o∈l,ET o.price)(hm:ET more):
  Sj prog 114 #[J a l.length cap,U G more] w λe w'=>∃v',e=Y v'/\w'.ownsRow w.heap.size 218 3 v' (bG l more).length (eX (bG l more))/\Sd w.heap.size w w':=by
 have HA:=ah h;have b1:=ah hw;have e1:=@run_makeMap prog;clear h hw;go_enter func114,ntmps114;go_upto_if 11 with fail;go_cut [] from 10 to 14 (λwc=>iL wc (w.heap.size+1) [] more/\sP wc w.heap.size 0 0/\Sd w.heap.size w wc)
 case first=>
  have n:Sd w.heap.size w ((w.alloc (R #[U G 0,U G 0] 222)).alloc (.map #[] 0)):=cZ (gW w _) (gW _ _);have y:sP ((w.alloc (R #[U G 0,U G 0] 222)).alloc (.map #[] 0)) w.heap.size 0 0:=rR (RU w _) (gW _ _)
  by_cases b8:0<more
  ·obtain⟨w1,r1,b2,a2⟩:=aX0 w (R #[U G 0,U G 0] 222) b8 hm;have T:=ah b2;have P:Hid (sP w1 w.heap.size 0 0):=(a2.block w.heap.size (SK y) s7).trans y;have O:Hid (Sd w.heap.size w w1):=n.grown a2 (by simp;omega) (λq hq=>by injection hq with hq;omega);clear b2 a2 n y;go_wp2_with fail;go_meet;exact⟨T.out,P.out,O.out⟩
  ·have T:Hid (iL ((w.alloc (R #[U G 0,U G 0] 222)).alloc (.map #[] 0)) (w.heap.size+1) [] more):=aXz w _ more b8;have O:=ah n;have P:=ah y;clear n y;go_wp2_with fail;go_meet;exact⟨T.out,P.out,O.out⟩
 case rest=>
  obtain⟨hL,hK,hb⟩:=hcut;have N:=ah hL;have t:=ah hK;have B:=ah hb;clear hL hK hb e1;go_wp2_with fail;refine(aOw a _ l wc (HA.out.below B.out) hl).mono ?_;rintro e w2 ⟨v2,rfl,z,n⟩;have a1:=ah (qB z B.out.size);have W:=ah (N.out.below n);have Q:=ah (t.out.below n);have a6:=ah (cZ B.out n);have HF:Hid (∀o∈l.filter okO,okO o=G_):=λo ho=>(Ua.1 ho).2
  have a8:Hid (∀o∈l.filter okO,ET o.price):=λo ho=>b1.out o (Ua.1 ho).1
  have b5:(l.filter okO).length<=1000:=RV (UC _ _) hl;have a7:Hid (∀xs:List Int,xs.Pairwise (· < ·)->(∀p,p∈xs↔p∈jh (l.filter okO) more)->pO xs (l.filter okO)=bG l more):=λxs h1 h2=>bCj h1 h2
  obtain⟨ao,vc,rfl,_,_⟩:=wo z;clear z n N t B HA b1;generalize l.filter okO=F at a1 W Q HF a8 b5 a7⊢;go_wp2_with fail;go_loopw [18] (λi wr=>∃k:Nat,k<=F.length/\i=U G k/\sP wr w.heap.size (aN iH (F.take k)) (aN iT (F.take k))/\iL wr (w.heap.size+1) (F.take k) more/\wr.ownsRow w.heap.size 155 5 (J ao F.length vc) F.length (oV F)/\Sd w.heap.size w wr) (λi _=>F.length - (YZ i).toNat)
  case atStart=>exact⟨0,Sv _,rfl,Q.out,W.out,a1.out,a6.out⟩
  case round=>
   obtain⟨k,hk,rfl,b7,b6,M,hb⟩:=hrel;have t:=ah b7;have N:=ah b6;have HR:=ah M;have B:=ah hb;clear Q W a1 a6 b7 b6 hb
   by_cases c:k<F.length
   ·have e7:(k:Int)<(F.length:Int):=o7;obtain⟨g,e6,hv,d0,d1,d2,d3,d4⟩:=EB M c;simp only[TD,true_and]at hv;obtain⟨rfl,rfl⟩:=hv;have X:Hid (okO (aO F k)=G_):=HF.out _ (by rw[pG c];exact Vn c);have Z:Hid (ET (aO F k).price):=a8.out _ (by rw[pG c];exact Vn c);have a0:=ah (aO0 c);have e2:=(Ef X.out).2;have e4:=ru (q:=iH) (Ns HF.out k) (by rw[Tq];omega);have e5:=ru (q:=iT) (Ns HF.out k) (by rw[Tq];omega);have E:Hid ((aO F k).kind=2->vV (aO F k) (aN iH (F.take k))=aN iH (F.take (k+1))):=aLk c rfl;have H:Hid ((aO F k).kind=2->vW (aO F k) (aN iT (F.take k))=aN iT (F.take (k+1))):=aLl c rfl;have I:Hid ((aO F k).kind≠2->aN iH (F.take (k+1))=aN iH (F.take k)):=λe=>aIv c (by unfold iH;simp[e])
    have K:Hid ((aO F k).kind≠2->aN iT (F.take (k+1))=aN iT (F.take k)):=λe=>aIv c (by unfold iT;simp[e])
    have a5:(F.take k).length<=1000:=by rw[Tq];omega
    have b0:=ah (Ns HF.out k);clear M;generalize aO F k=x at d0 d1 d2 d3 d4 X Z a0 e2 E H I K;have hX:AP (wr.alloc (R #[U G x.id,U G x.side,U G x.kind,U G x.price,U G x.ak] 155)) wr.heap.size x:=RU wr _;have s:=gW wr (R #[U G x.id,U G x.side,U G x.kind,U G x.price,U G x.ak] 155)
    by_cases f:x.kind=2
    ·have d9:=beq_iff_eq.2 f;have m0:=bT (j:=0) (t.out.below s) rfl;have m1:=bT (j:=1) (t.out.below s) rfl;have a9:Hid (iL wr (w.heap.size+1) (F.take (k+1)) more):=by rw[a0.out];exact N.out.same f
     have C:=ah (E.out f);have D:=ah (H.out f);clear hX E H I K N f;generalize aN iH (F.take k)=sb at e4 t m0 C;generalize aN iT (F.take k)=ssl at e5 t m1 D;go_wp2_with fail;have v:Hid (AP (wr.alloc (R #[U G x.id,U G x.side,U G x.kind,U G x.price,U G x.ak] 155)) wr.heap.size x):=RU wr _;have m:=ah s;clear s;generalize wr.alloc (R #[U G x.id,U G x.side,U G x.kind,U G x.price,U G x.ak] 155)=V at m0 m1 v m⊢;refine(aAk sb ssl x V o7 o7 o7).mono ?_;rintro e w5 ⟨rfl,d⟩;have r:=(t.out.below m.out).below d;have S:=ah r;have n0:=bT (j:=0) r rfl;have n1:=bT (j:=1) r rfl;have f0:=qO (j:=0) r;have f1:=qO (j:=1) r;have b:=cZ m.out d;have c7:=ah (a9.out.below b);have d6:Hid (w5.ownsRow w.heap.size 155 5 (J (A_ ⟨g,0,B_⟩) F.length vc) F.length (oV F)):=Bf HR.out b au;have c3:=ah (cZ B.out b);clear r d b m0 m1 v m a9 t HR B;rw[C.out,D.out];go_wp2_with fail;go_roundw
     case rel=>
      refine⟨k+1,c,by go_num,S.out.set _ _,c7.out.block ?_,aHo (aHo d6.out S.out d7) (qc (j:=0) _ S.out) d7,(c3.out.setCell au _).setCell au _⟩;exact(Xj _ _ _ _ s7).trans (Xj _ _ _ _ s7)
     case measure=>simp[YZ];omega
    ·have d9:=RG.2 f;have C:=ah (I.out f);have D:=ah (K.out f);have e8:=ru (q:=dV x.price) b0.out a5;have e9:=ru (q:=gy x.price) b0.out a5;have c1:Hid (vV x (aN (dV x.price) (F.take k))=aN (dV x.price) (F.take k++[x])):=aLi _ f;have c2:Hid (vW x (aN (gy x.price) (F.take k))=aN (gy x.price) (F.take k++[x])):=aLj _ f;have c9:=ah (aZd X.out f);clear E H I K;go_upto_region 10 with fail;have v:=ah hX;have m:=ah s;have u:=ah (N.out.below s);clear hX s d0 d1 d2 d3 d4;generalize wr.alloc (R #[U G x.id,U G x.side,U G x.kind,U G x.price,U G x.ak] 155)=V at v m u⊢;generalize wr.heap.size=xb at v⊢;have e0:(Instr.lookup 223 (.map (A_ (w.heap.size+1))) (U G x.price) E_).run prog V.drew=.ok (.agg #[U G (aN (dV x.price) (F.take k)),U G (aN (gy x.price) (F.take k))]) V.drew:=(u.out.block (w':=V.drew) rfl).look Z.out;have x0:=bT (j:=0) v.out rfl;have x1:=bT (j:=1) v.out rfl;have x2:=bT (j:=2) v.out rfl;have x3:=bT (j:=3) v.out rfl;have x4:=bT (j:=4) v.out rfl;go_region_with (go_at_call 160;refine(aAk _ _ x _ ?_ ?_ ?_).mono ?_;(omega);(omega);(omega);rintro e w5 ⟨rfl,d⟩;rw[c1.out,c2.out];(have y3:=bT (j:=3) (rR (w:=V.drew) v.out d) rfl;obtain⟨w6,e3,b3,L⟩:=iL.store (u.out.block (w':=w5) (d.block _ u.out.lt)) c9.out Z.out a5))
     all_goals
      have c8:Hid (iL w6 (w.heap.size+1) (F.take (k+1)) more):=by rw[a0.out];exact b3
      have r:=(t.out.below m.out).below (w:=V) (w':=V.drew) (RS _ V).drew;have a3:=r.below d;have c6:Hid (sP w6 w.heap.size (aN iH (F.take k)) (aN iT (F.take k))):=(L.block w.heap.size (SK a3) s7).trans a3;have a4:=Bf HR.out (cZ m.out (cZ (w1:=V.drew) (RS _ V).drew d)) au;have d8:Hid (w6.ownsRow w.heap.size 155 5 (J (A_ ⟨g,0,B_⟩) F.length vc) F.length (oV F)):=aHm a4 L (bD5 a4 (u.out.block (w':=w5) (d.block _ u.out.lt)));have b:=cZ B.out (cZ m.out (cZ (w1:=V.drew) (RS _ V).drew d));have c4:Hid (Sd w.heap.size w w6):=b.grown L b.size (λq hq=>by injection hq with hq;omega);clear b a4 a3 r b3 L e3 y3 d x0 x1 x2 x3 x4 e0;go_wp2_with fail;go_roundw
      case rel=>exact⟨k+1,c,by go_num,by rw[C.out,D.out];exact c6.out,c8.out,d8.out,c4.out⟩
      case measure=>simp[YZ];omega
   ·obtain rfl:k=F.length:=o7;rw[Vd]at t N;have m0:=bT (j:=0) t.out rfl;have m1:=bT (j:=1) t.out rfl;clear M;go_wp2_with fail;refine(aOz _ F more wr N.out HF.out b5).mono ?_;rintro e w7 ⟨v7,xs,rfl,b9,c0,A,b4⟩
    have d5:Hid (w7.ownsRow w.heap.size 218 3 v7 (bG l more).length (eX (bG l more))):=by
     rw[<-a7.out xs b9 c0];exact qB A B.out.size
    have c5:=ah (cZ B.out b4);clear b9 c0 A b4 m0 m1;go_wp2_with fail;go_ret;exact⟨_,rfl,d5.out,c5.out⟩
def lT(f:Pt->Int)(a:Int)(l:List Pt):Int:=l.foldl (λm x=>max m (f x)) a
def gJ(f:Pt->Int)(l:List Pt):List Pt:=l.filter λx=>f x == lT f (f (aR l 0)) l
def eP(f:Pt->Int)(l:List Pt):List Pt:=gJ (λx=>-f x) l
def sI(x:Pt):Int:=x.bQ - x.sup
def tq(a b:Int):Int:=max a b - min a b
def jZ(x:Pt):Int:=tq x.bQ x.sup
def jJ(around:Int)(x:Pt):Int:=tq x.price around
def yS(x:Pt):Bool:=decide (sI x>0)
def xW(x:Pt):Bool:=decide (sI x<0)
def nJ(q:Pt->Bool)(l:List Pt):Bool:=(((l.filter q).length:Int) == (l.length:Int))
def iR(around:Int)(l:List Pt):List Pt:=
 if nJ yS l=G_ then gJ Pt.price l else if nJ xW l=G_ then eP Pt.price l else eP Pt.price (eP (jJ around) l)
def tZ(l:List Pt):Bool:=((l.length:Int) == 0) || decide (bI (aR l 0)<1)
def KH(l:List Pt)(around:Int):AU:=
 if tZ (gJ bI l)=G_ then⟨0,0,0⟩else Cb (aR (iR around (eP jZ (gJ bI l))) 0)
def Qt(a b:Int):tq a b=vQ (a - b):=by unfold tq vQ;split<;>omega
def aEf(x:Pt):jZ x=qp x:=Qt _ _
def bHn{f:Pt->Int}(h:k<l.length):lT f a (l.take (k+1))=max (lT f a (l.take k)) (f (aR l k)):=aCj _ _ h
def aJe(f:Pt->Int):∀(l:List Pt) (a:Int),a<=lT f a l
 |[],a=>Int.le_refl _
 |x::l,a=>Int.le_trans o7 (aJe f l (max a (f x)))
def aJg(f:Pt->Int):∀(l:List Pt) (a:Int) {x:Pt},x∈l->f x<=lT f a l
 |y::l,a,x,h=>by
  rw[SB]at h;rcases h with rfl|h
  ·exact Int.le_trans o7 (aJe f l (max a (f x)))
  ·exact aJg f l _ h
def aJf(f:Pt->Int):∀(l:List Pt) (a:Int),lT f a l=a\/∃x∈l,f x=lT f a l
 |[],a=>RP rfl
 |y::l,a=>by
  have e:lT f a (y::l)=lT f (max a (f y)) l:=rfl;rw[e];rcases aJf f l (max a (f y))with h|⟨x,b,h⟩
  ·rw[h]
   by_cases c:f y<=a
   ·exact RP o7
   ·exact RN ⟨y,List.mem_cons_self ..,o7⟩
  ·exact RN ⟨x,List.mem_cons_of_mem _ b,h⟩
def yF(f:Pt->Int)(h:0<l.length):∃top,gJ f l=l.filter (λx=>f x == top)/\(∀x∈l,f x<=top)/\∃x∈l,f x=top:=by
 refine⟨lT f (f (aR l 0)) l,rfl,λx a=>aJg f l _ a,?_⟩;rcases aJf f l (f (aR l 0))with e|e
 ·exact⟨aR l 0,mZ h,e.symm⟩
 ·exact e
def MQ(f:Pt->Int)(l:List Pt):(gJ f l).length<=l.length:=UC _ _
def aD7(f:Pt->Int)(l:List Pt):(eP f l).length<=l.length:=MQ _ _
def MR{f:Pt->Int}{x:Pt}(h:x∈gJ f l):x∈l:=(Ua.1 h).1
def DT{f:Pt->Int}{x:Pt}(h:x∈eP f l):x∈l:=MR h
def yE(f:Pt->Int)(h:0<l.length):0<(gJ f l).length:=by
 obtain⟨t,e,_,x,b,h1⟩:=yF f h;rw[e];exact w_ (a:=x) (Ua.2 ⟨b,by simp[h1]⟩)
def aDy(around:Int)(h:0<l.length):0<(iR around l).length:=by
 unfold iR;split
 ·exact yE _ h
 ·split
  ·exact yE _ h
  ·exact yE _ (yE _ h)
def aWw{x:Pt}(h:x∈iR around l):x∈l:=by
 unfold iR at h;split at h
 ·exact MR h
 ·split at h
  ·exact DT h
  ·exact DT (DT h)
def Qq(q:Pt->Bool)(l:List Pt):nJ q l=l.all q:=by
 induction l with
 |nil=>rfl
 |cons x l ih=>
  have a:=UC q l
  by_cases h:q x=G_
  ·have e:nJ q (x::l)=nJ q l:=by
    unfold nJ;simp only[Xm,h,if_true,SC];rw[Vm];simp
   rw[e,ih];simp[h]
  ·have e:nJ q (x::l)=E_:=by
    unfold nJ;simp only[Xm,h,SC];simp;omega
   rw[e];simp[h]
def GK{q:Pt->Bool}:∀{l:List Pt},(∃x∈l,q x=G_)->∃i,i<l.length/\aR (l.filter q) 0=aR l i/\q (aR l i)=G_/\∀j,j<i->q (aR l j)=E_
 |[],h=>by obtain⟨x,a,_⟩:=h;cases a
 |y::l,h=>by
  by_cases b:q y=G_
  ·refine⟨0,by simp,?_,?_,λj e=>by omega⟩
   ·simp[aR,b]
   ·simpa[aR]using b
  ·obtain⟨x,a,c⟩:=h;rw[SB]at a;rcases a with rfl|a
   ·exact absurd c b
   ·obtain⟨i,h1,h2,h3,d⟩:=GK (l:=l) ⟨x,a,c⟩;refine⟨i+1,by simpa using h1,?_,?_,λj e=>?_⟩
    ·rw[Xm,RD b,h2];simp[aR]
    ·simpa[aR]using h3
    ·cases j with
     |zero=>simpa[aR]using b
     |succ j=>have:=d j o7;simpa[aR]using this
def tV(b s:Bool)(around:Int)(x:Pt):Int:=if b=G_ then 0 else if s=G_ then 0 else vQ (x.price - around)
def wS(b:Bool)(x:Pt):Int:=if b=G_ then -x.price else x.price
def tu(b s:Bool)(around:Int)(p x:Pt):Ba b s around p x=G_↔(tV b s around p<tV b s around x\/(tV b s around p=tV b s around x/\wS b p<wS b x)):=by
 unfold Ba tV wS;cases b<;>cases s<;>simp
def Fe(b s:Bool)(around:Int)(l:List Pt)(k i:Nat):Prop:=
 (∀j,j<k->Ba b s around (aR l j) (aR l i)=E_)/\∀j,j<i->Ba b s around (aR l i) (aR l j)=G_
def aGp(b s:Bool)(around:Int){l:List Pt}(h:0<l.length):∀k,k<=l.length->∃i,i<l.length/\Ai b s around l k=aR l i/\Fe b s around l k i/\(i<k\/i=0)
 |0,_=>⟨0,h,rfl,⟨λj a=>by omega,λj a=>by omega⟩,RN rfl⟩
 |k+1,hk=>by
  obtain⟨i,h1,h2,⟨h3,d⟩,f⟩:=aGp b s around h k o7;rw[aGr o7,h2];unfold EN
  by_cases c:Ba b s around (aR l k) (aR l i)=G_
  ·rw[RF c];have g:=(tu ..).1 c;refine⟨k,o7,rfl,⟨λj a=>?_,λj a=>?_⟩,RP o7⟩
   ·rw[Wx];intro m;have n:=(tu ..).1 m
    by_cases e:j=k
    ·subst e;omega
    ·have:=h3 j o7;rw[Wx]at this;exact this ((tu ..).2 o7)
   ·have:=h3 j a;rw[Wx]at this;have o:¬_:=λe=>this ((tu ..).2 e)
    exact(tu ..).2 o7
  ·rw[RD c];refine⟨i,h1,rfl,⟨λj a=>?_,d⟩,f.imp (λe=>by omega) id⟩
   by_cases e:j=k
   ·subst e;simpa using c
   ·exact h3 j o7
def aT0{b s:Bool}{i i':Nat}(hi:i<l.length)(a:i'<l.length)(h:Fe b s around l l.length i)(c:Fe b s around l l.length i'):i=i':=by
 rcases Nat.lt_trichotomy i i' with e|e|e
 ·have h1:=c.2 i e;rw[h.1 i' a]at h1;cases h1
 ·exact e
 ·have h1:=h.2 i' e;rw[c.1 i hi]at h1;cases h1
def aWv(h:0<l.length):∃i,i<l.length/\aR (iR around l) 0=aR l i/\Fe (xU l) (yO l) around l l.length i:=by
 have y:nJ yS l=xU l:=by
  rw[Qq];unfold xU yS sI;congr 1;funext x;first|(simp;done)|(simp;omega)
 have w:nJ xW l=yO l:=by
  rw[Qq];unfold yO xW sI;congr 1;funext x;first|(simp;done)|(simp;omega)
 unfold iR;rw[y,w];cases hb:xU l with
 |true=>
  rw[RF rfl];obtain⟨t,e,f,z,r,d⟩:=yF Pt.price h;rw[e];obtain⟨i,h1,h2,h3,m⟩:=GK (q:=λx=>x.price == t) ⟨z,r,by simp[d]⟩;refine⟨i,h1,h2,λj a=>?_,λj a=>?_⟩
  ·rw[Wx];intro o;have b:=(tu ..).1 o;have:=f _ (mZ a);have c:(aR l i).price=t:=by simpa using h3
   simp[tV,wS]at b;omega
  ·have n:=m j a;have s:(aR l j).price≠t:=by simpa using n
   have:=f _ (mZ (Nat.lt_trans a h1));have c:(aR l i).price=t:=by simpa using h3
   exact(tu ..).2 (by simp[tV,wS];omega)
 |false=>
  rw[RD d7];cases hs:yO l with
  |true=>
   rw[RF rfl];obtain⟨t,e,f,z,r,d⟩:=yF (λx=>-x.price) h;rw[eP,e];obtain⟨i,h1,h2,h3,m⟩:=GK (q:=λx=>-x.price == t) ⟨z,r,by simp[d]⟩;refine⟨i,h1,h2,λj a=>?_,λj a=>?_⟩
   ·rw[Wx];intro o;have b:=(tu ..).1 o;have:=f _ (mZ a);have c:-(aR l i).price=t:=by simpa using h3
    simp[tV,wS]at b;omega
   ·have n:=m j a;have s:-(aR l j).price≠t:=by simpa using n
    have:=f _ (mZ (Nat.lt_trans a h1));have c:-(aR l i).price=t:=by simpa using h3
    exact(tu ..).2 (by simp[tV,wS];omega)
  |false=>
   rw[RD d7];obtain⟨t,e,f,z,r,d⟩:=yF (λx=>-jJ around x) h;have v:eP (jJ around) l=l.filter (λx=>-jJ around x == t):=e;have hp:0<(eP (jJ around) l).length:=yE _ h;obtain⟨t2,e2,k,B,p,u⟩:=yF (λx=>-x.price) hp;rw[show eP Pt.price (eP (jJ around) l)=(eP (jJ around) l).filter (λx=>-x.price == t2) from e2];rw[v]at p k⊢;rw[Vi];have g:=Ua.1 p;obtain⟨i,h1,h2,h3,m⟩:=GK (l:=l) (q:=λx=>(-x.price == t2)&& (-jJ around x == t)) ⟨B,g.1,by rw[g.2];simp[u]⟩;have c:-(aR l i).price=t2/\-jJ around (aR l i)=t:=by simpa using h3
   have hn:∀x:Pt,jJ around x=vQ (x.price - around):=λx=>Qt _ _
   refine⟨i,h1,h2,λj a=>?_,λj a=>?_⟩
   ·rw[Wx];intro o;have b:=(tu ..).1 o;simp only[tV,wS,SE,if_false,<-hn]at b;have A:=f _ (mZ a)
    by_cases e:-jJ around (aR l j)=t
    ·have:=k _ (Ua.2 ⟨mZ a,by simp[e]⟩);omega
    ·omega
   ·have n:=m j a;have A:=f _ (mZ (Nat.lt_trans a h1));refine(tu ..).2 ?_;simp only[tV,wS,SE,if_false,<-hn]
    by_cases e:-jJ around (aR l j)=t
    ·have C:=k _ (Ua.2 ⟨mZ (Nat.lt_trans a h1),by simp[e]⟩);have D:¬-(aR l j).price=t2:=by simpa[e]using n
     omega
    ·omega
def aWx(h:0<l.length):aR (iR around l) 0=IC (xU l) (yO l) around l:=by
 obtain⟨i,h1,h2,h3⟩:=aWv (around:=around) h;obtain⟨d,b,a,c,_⟩:=aGp (xU l) (yO l) around h l.length au;rw[aGo]at a;rw[h2,a,aT0 h1 b h3 c]
def aN1(l:List Pt)(around:Int):KH l around=bH l around:=by
 unfold KH bH
 by_cases o:fU l<1
 ·rw[RF o]
  have hn:tZ (gJ bI l)=G_:=by
   by_cases b:0<l.length
   ·obtain⟨t,e,_,z,k,d⟩:=yF bI b;have h2:=mZ (yE bI b);rw[e]at h2;have h3:=Ua.1 h2;have g:=aE6 h3.1;rw[<-e]at g;unfold tZ;rw[Bool.or_eq_true];exact RN (RI o7)
   ·have:(gJ bI l).length=0:=by have:=MQ bI l;omega
    unfold tZ;simp[this]
  rw[RF hn]
 ·rw[RD o]
  have b:0<l.length:=by
   rcases MU l with h|⟨x,i,_⟩
   ·omega
   ·exact w_ i
  obtain⟨t,e,s,z,k,d⟩:=yF bI b;have a:=yE bI b
  have et:t=fU l:=by
   rcases MU l with h|⟨x,i,h⟩
   ·omega
   ·have h1:=s x i;have h2:=aE6 k;omega
  subst et;have h3:=Ua.1 (e▸mZ a)
  have hn:tZ (gJ bI l)=E_:=by
   unfold tZ;rw[Bool.or_eq_false_iff];refine⟨by simp;intro h0;rw[h0]at a;simp at a,RH ?_⟩;have:bI (aR (gJ bI l) 0)=fU l:=by rw[<-e]at h3;simpa using h3.2
   omega
  rw[RD (by rw[hn];decide)]
  have eb:eP jZ (gJ bI l)=zw (fU l) (rY (fU l) l).1 l:=by
   obtain⟨p,e2,c,w,f,m⟩:=yF (λx=>-jZ x) a;rw[show eP jZ (gJ bI l)=(gJ bI l).filter (λx=>-jZ x == p) from e2];rcases aD8 (fU l) l with⟨_,g⟩|⟨_,⟨y,u,j,v⟩,r⟩
   ·exact absurd d (g z k)
   ·have q:p=-(rY (fU l) l).1:=by
     rw[e]at f c;have a1:=c y (Ua.2 ⟨u,by simp[j]⟩);have n:=Ua.1 f;have A:=r w n.1 (by simpa using n.2);rw[aEf]at a1 m;omega
    rw[e,Vi,zw]
    congr 1
    funext x
    unfold FB;rw[q,aEf,Bool.and_comm]
    congr 1
    rw[Vm];first|(simp;done)|(simp;omega)
  rw[eb,aWx (QO o7)];rfl
def bC2(h:0<l.length):aR (iR around l) 0∈l:=aWw (mZ (aDy around h))
structure rH(g:Nat)(lb:Array D_)(f:Pt->Int)(l:List Pt)(w0:C_):Prop where
 enters:∀args w,(callFunc g args).run prog w=.ok (.enter g args) w
 tells:∀W,Sd w0.heap.size w0 W->∀x∈l,Sj prog g (#[.agg #[U G x.price,U G x.bQ,U G x.sup]]++lb) W λe W'=>e=Y (U G (f x))/\Sd W.heap.size W W'
structure Cx(g:Nat)(lb:Array D_)(q:Pt->Bool)(l:List Pt)(w0:C_):Prop where
 enters:∀args w,(callFunc g args).run prog w=.ok (.enter g args) w
 tells:∀W,Sd w0.heap.size w0 W->∀x∈l,Sj prog g (#[.agg #[U G x.price,U G x.bQ,U G x.sup]]++lb) W λe W'=>e=Y (.bool (q x))/\Sd W.heap.size W W'
variable {g:Nat} {x:Pt}
def rH.later{f:Pt->Int}{w0 w1:C_}(h:rH g lb f l w0)(b:Sd w0.heap.size w0 w1):rH g lb f l w1:=
 ⟨h.enters,λW a x c=>h.tells W (cZ b a) x c⟩
def aTw{α:Type}(q:α->Bool){l:List α}(h:k<l.length):(l.take (k+1)).filter q=if q l[k]=G_ then(l.take k).filter q++[l[k]]else(l.take k).filter q:=by
 rw[SQ h,WL]
 by_cases a:q l[k]=G_
 ·rw[RF a];simp[a]
 ·rw[RD a];simp[a]
def aV0:(prog.info? 218).map (λi=>(i.zero,i.size,i.bytes))=A_ (A_ (.agg #[U G 0,U G 0,U G 0]),3,24):=k7
def AB(w:C_)(b:Nat)(x:Pt):Prop:=w.heap[b]? = A_ (R #[U G x.price,U G x.bQ,U G x.sup] 218 (0,0))
def AB.below{b:Nat}(h:AB w b x)(a:Sd w.heap.size w w'):AB w' b x:=rR h a
def Ry(a:Option J_)(cap:Nat)(l:List Pt)(g:Nat)(lb:Array D_)(q:Pt->Bool)(w:C_)(h:oK w a l)(hl:l.length<=1000)(M:Cx g lb q l w):
  Sj prog 199 #[J a l.length cap,.func (.func g) #[] lb] w λe w'=>∃v',e=Y v'/\w'.ownsRow w.heap.size 218 3 v' (l.filter q).length (eX (l.filter q))/\Sd w.heap.size w w':=by
 obtain⟨iP,N,I,K,L⟩:=Vw aV0;have S:=ah h;have T:=ah M;have eg:=M.enters;clear h M;go_enter func199,ntmps199;go_wp2_with fail;go_loopw [5,10] (λv i wr=>∃k:Nat,k<=l.length/\i=U G k/\wr.ownsRow w.heap.size 218 3 v ((l.take k).filter q).length (eX ((l.take k).filter q))/\Sd w.heap.size w wr) (λ_ i _=>l.length - (intOf i).toNat)
 case atStart=>exact⟨0,Sv _,rfl,Uo _ _ _ _,RS _ _⟩
 case round=>
  obtain⟨k,hk,rfl,n,F⟩:=hrel;have A:=ah n;have D:=ah F
  have B:((l.take k).filter q).length<=1000:=by
   have:=UC q (l.take k);rw[Tq]at this;omega
  obtain⟨O,C,rfl,_,_⟩:=wo n;clear n
  by_cases c:k<l.length
  ·have Z:(k:Int)<(l.length:Int):=o7;obtain⟨b,off,rfl,d0,P,Q⟩:=S.out.below F k c;have H:Hid (∀W,Sd w.heap.size w W->Sj prog g (#[.agg #[U G (aR l k).price,U G (aR l k).bQ,U G (aR l k).sup]]++lb) W λe V=>e=Y (.bool (q (aR l k)))/\Sd W.heap.size W V):=λW X=>T.out.tells W X _ (mZ c)
   have y:Hid ((l.take (k+1)).filter q=if q (aR l k)=G_ then(l.take k).filter q++[aR l k]else(l.take k).filter q):=by rw[NM c];exact aTw q c
   clear F;generalize aR l k=x at d0 P Q H y;generalize(l.take k).filter q=acc at y A B;go_wp2_with fail;have E:AB (wr.alloc (R #[U G x.price,U G x.bQ,U G x.sup] 218)) wr.heap.size x:=RU wr _;have m:=gW wr (R #[U G x.price,U G x.bQ,U G x.sup] 218);generalize wr.alloc (R #[U G x.price,U G x.bQ,U G x.sup] 218)=W at E m⊢;generalize wr.heap.size=xb at E⊢;refine(H.out W (cZ D.out m)).mono ?_;rintro e w4 ⟨rfl,o⟩;have f:=E.below o;have s:Hid (w4.ownsRow w.heap.size 218 3 (J O acc.length C) acc.length (eX acc)):=Bf A.out (cZ m o) au;have d:=ah (cZ D.out (cZ m o));clear E m o A D d0 P Q H;cases z:q x with
   |true=>
    have r:Hid ((l.take (k+1)).filter q=acc++[x]):=by rw[y.out,RF z];rfl
    have y0:=bT (j:=0) f rfl;have y1:=bT (j:=1) f rfl;have y2:=bT (j:=2) f rfl;clear y z f;go_wp2_with (at_builtin;refine Xy _ rfl _ _ 167 rfl w.heap.size 218 iP (.agg #[U G 0,U G 0,U G 0]) 3 24 underlying167 N I K L rfl d7 _ acc.length (eX acc) rfl (s.out.alloc _) ⟨w4.heap.size,0,B_⟩ 1 1 [U G x.price,U G x.bQ,U G x.sup] rfl rfl (UL (cs:=#[U G x.price,U G x.bQ,U G x.sup]) (t:=218) (fr:=(0,0)) (RU w4 _)) (by simp[Vk]) (by unfold maxLen;omega) o7 (by have:=d.out.size;simp;omega) ?_;intro v' w6 u p _ _);go_roundw
    case rel=>
     refine⟨k+1,c,by go_num,?_,(d.out.alloc d.out.size _).grown p (by have:=d.out.size;simp;omega) (λq z=>(s.out.lt q z).1)⟩;rw[r.out,aGz,Sl,TG];exact u
    case measure=>simp[intOf];omega
   |false=>
    have r:Hid ((l.take (k+1)).filter q=acc):=by rw[y.out,RD (by rw[z];decide)];rfl
    clear y z f;go_wp2_with fail;go_roundw
    case rel=>exact⟨k+1,c,by go_num,by rw[r.out];exact s.out,d.out⟩
    case measure=>simp[intOf];omega
  ·obtain rfl:k=l.length:=o7;rw[Vd]at A B⊢;clear F;go_wp2_with fail;go_ret;exact⟨_,rfl,A.out,D.out⟩
def aY3{f:Pt->Int}(p:rH g lb f l w){tb:Nat}{top:Int}(h1:w.cell? ⟨nb,0,B_⟩=A_ (.func (.func g) #[] lb))(h2:w.cell? ⟨tb,0,B_⟩=A_ (U G top)):
  Cx 200 #[E (A_ ⟨nb,0,B_⟩),E (A_ ⟨tb,0,B_⟩)] (λx=>f x == top) l w:=by
 refine⟨enters_of func200 k7 rfl,λW k x v=>?_⟩;show Sj prog 200 #[.agg #[U G x.price,U G x.bQ,U G x.sup],E (A_ ⟨nb,0,B_⟩),E (A_ ⟨tb,0,B_⟩)] W _;have eg:=p.enters;have c:AB (W.alloc (R #[U G x.price,U G x.bQ,U G x.sup] 218)) W.heap.size x:=RU W _;have a:=gW W (R #[U G x.price,U G x.bQ,U G x.sup] 218);have m:=iN a (iN k h1);have n:=iN a (iN k h2);have b:=ah a
 have u:∀o os,Sj prog g (#[.agg #[U G x.price,U G x.bQ,U G x.sup]]++lb) (Go.Sort.grow (redrawn (W.alloc (R #[U G x.price,U G x.bQ,U G x.sup] 218)) o) os) λe t=>e=Y (U G (f x))/\∃q:Regrown,t=Go.Sort.grow (redrawn (W.alloc (R #[U G x.price,U G x.bQ,U G x.sup] 218)) q.d) q.os:=λo os=>
  Calls.regrown_of (p.tells _ (cZ (cZ k a) (Uh ..)) x v)
 clear p k h1 h2 a;go_enter func200,ntmps200;go_wp2_with fail;generalize W.alloc (R #[U G x.price,U G x.bQ,U G x.sup] 218)=V at c b m n u⊢;generalize r:W.heap.size=xb at c b⊢;have z:=TJ (bT (j:=0) c rfl);have k1:=TJ (bT (j:=1) c rfl);have k2:=TJ (bT (j:=2) c rfl);have k3:=TJ m;have A:=TJ n;clear c m n;refine wp_region_quiet_below k7 k7 ?_
 repeat(go_big_quiet_step (exact u _ _))
 refine wpQuiet_nil ?_;intro _ s;obtain⟨⟨o,y⟩,i⟩:=s;subst i;go_wp2;go_ret;subst r;exact⟨rfl,cZ b.out (Uh ..)⟩
def aXb{f:Pt->Int}(c:rH g lb f l w)(h1:w.cell? ⟨nb,0,B_⟩=A_ (.func (.func g) #[] lb))(j:∀x∈l,-9000000000000000000<=f x/\f x<=9000000000000000000):
  rH 201 #[E (A_ ⟨nb,0,B_⟩)] (λx=>-f x) l w:=by
 refine⟨enters_of func201 k7 rfl,λW d x k=>?_⟩;show Sj prog 201 #[.agg #[U G x.price,U G x.bQ,U G x.sup],E (A_ ⟨nb,0,B_⟩)] W _;have eg:=c.enters;have p:=iN (gW W (R #[U G x.price,U G x.bQ,U G x.sup] 218)) (iN d h1);obtain⟨n,o⟩:=j x k;have i:Hid (∀V,Sd W.heap.size W V->Sj prog g (#[.agg #[U G x.price,U G x.bQ,U G x.sup]]++lb) V λe m=>e=Y (U G (f x))/\Sd V.heap.size V m):=λV hV=>c.tells V (cZ d hV) x k
 clear c d h1 j;generalize f x=z at n o i⊢;go_enter func201,ntmps201;go_wp2_with fail;refine(i.out _ (gW W _)).mono ?_;rintro e w3 ⟨rfl,a⟩;have b:Hid (Sd W.heap.size W w3):=cZ (gW W _) a;clear a;go_wp2_with fail;go_ret;exact⟨rfl,b.out⟩
def KF(a:Option J_)(cap:Nat)(l:List Pt)(g:Nat)(lb:Array D_)(f:Pt->Int)(w:C_)(h:oK w a l)(hl:l.length<=1000)(hf:rH g lb f l w):
  Sj prog 147 #[J a l.length cap,.func (.func g) #[] lb] w λe w'=>∃v',e=Y v'/\w'.ownsRow w.heap.size 218 3 v' (gJ f l).length (eX (gJ f l))/\Sd w.heap.size w w':=by
 have HA:=ah h;have HF:=ah hf;have eg:=hf.enters;have c:=gW w (R #[.func (.func g) #[] lb] 216);have y:(w.alloc (R #[.func (.func g) #[] lb] 216)).heap[w.heap.size]? = _:=RU w _;clear h hf
 by_cases h0:0<l.length
 ·obtain⟨b,off,rfl,d0,t,u⟩:=HA.out.below c 0 h0;have A:((l.length:Int) == 0)=E_:=RG.2 o7;have a8:(0:Int)<(l.length:Int):=o7;go_enter func147,ntmps147;go_upto_region 3 with fail;have q:=ah c;have s:Hid (∀W,Sd w.heap.size w W->Sj prog g (#[.agg #[U G (aR l 0).price,U G (aR l 0).bQ,U G (aR l 0).sup]]++lb) W λe W'=>e=Y (U G (f (aR l 0)))/\Sd W.heap.size W W'):=λW hW=>HF.out.tells W hW _ (mZ h0)
  have HN:=ah y;have n0:=bT (j:=0) y rfl;have o:Hid (f (aR l 0)=lT f (f (aR l 0)) (l.take 0)):=rfl;have T:Hid (gJ f l=l.filter λx=>f x == lT f (f (aR l 0)) l):=rfl;generalize f (aR l 0)=z0 at s o T;generalize aR l 0=F at d0 t u s;generalize w.alloc (R #[.func (.func g) #[] lb] 216)=V at d0 t u q HN n0⊢;clear c y A;rw[Nat.zero_mul,Nat.add_zero]at d0 t u;go_cut [5] from 11 to 15 (λv wc=>∃tb:Nat,v=E (A_ ⟨tb,0,B_⟩)/\V.heap.size<=tb/\wc.heap[tb]? = A_ (R #[U G z0] 3 (0,0))/\Sd V.heap.size V wc)
  case first=>
   have HS:Hid (∀w',Sd V.heap.size V w'->w'.cell? ⟨w.heap.size,0,B_⟩=A_ (.func (.func g) #[] lb)/\w'.cell? ⟨b,off,B_⟩=A_ (U G F.price)/\w'.cell? ⟨b,off+1,B_⟩=A_ (U G F.bQ)/\w'.cell? ⟨b,off+2,B_⟩=A_ (U G F.sup)/\Sd V.heap.size V w'):=λw' n=>⟨iN n n0,iN n d0,iN n t,iN n u,n⟩
   go_region_held3 (λw'=>w'.cell? ⟨w.heap.size,0,B_⟩=A_ (.func (.func g) #[] lb)/\w'.cell? ⟨b,off,B_⟩=A_ (U G F.price)/\w'.cell? ⟨b,off+1,B_⟩=A_ (U G F.bQ)/\w'.cell? ⟨b,off+2,B_⟩=A_ (U G F.sup)/\Sd V.heap.size V w')
    ((refine HS.out _ ?_;(repeat' first|assumption|exact RS _ _|exact au|refine Um ?_|refine TR ?_ ?_ _|refine cZ ?_ d|refine Below.setCell ?_ ?_ _|(simp;done)|(simp;omega)|(have h9:=d.size;simp at h9⊢;omega))))
    (first|(go_at_fn g;refine(s.out _ ?_).mono ?_;(refine cZ q.out ?_;go_split_ands;assumption);rintro e N ⟨rfl,d⟩;first|(have D:N.heap[V.heap.size]? = A_ (R #[U G 0] 3 (0,0)):=rR (RU V.drew _) d;have c5:=bT (j:=0) D rfl;have f5:=qO (j:=0) D)|skip))
   ·have HR:Hid (Sd V.heap.size V (N.alloc (R #[U G z0] 3))):=by go_split_ands;assumption
    have HZ:=ah d.size;go_wp2_with fail;go_meet;exact⟨_,rfl,HZ.out,RU N _,HR.out⟩
   ·have HR:Hid (Sd V.heap.size V (N.setCell ⟨V.heap.size,0,B_⟩ (U G z0))):=by go_split_ands;assumption
    have HZ:Hid _:=D;go_wp2_with fail;go_meet;exact⟨_,rfl,au,qc (j:=0) _ HZ.out,HR.out⟩
  case rest=>
   obtain⟨tb,rfl,Z,p,I⟩:=hcut;have S:Hid (wc.heap[tb]? = A_ (R #[U G (lT f z0 (l.take 0))] 3 (0,0))):=by rw[<-o.out];exact p
   have Q:=ah (rR HN.out I);have O:=ah (cZ q.out I);have C:w.heap.size<tb:=Nat.lt_of_lt_of_le (SK HN.out) Z;clear p I q HN Z s d0 t u n0 o;go_wp2_with fail;go_loopw [18] (λi wr=>∃k:Nat,k<=l.length/\i=U G k/\wr.heap[tb]? = A_ (R #[U G (lT f z0 (l.take k))] 3 (0,0))/\wr.heap[w.heap.size]? = A_ (R #[.func (.func g) #[] lb] 216 (0,0))/\Sd w.heap.size w wr) (λi _=>l.length - (intOf i).toNat)
   case atStart=>exact⟨0,Sv _,rfl,S.out,Q.out,O.out⟩
   case round=>
    obtain⟨k,hk,rfl,p,y,n⟩:=hrel;clear S Q O;have HB:=ah n
    by_cases r:k<l.length
    ·have a7:(k:Int)<(l.length:Int):=o7;obtain⟨b',off',he,d0,t,u⟩:=HA.out.below n k r;obtain⟨rfl,rfl⟩:b=b'/\off=off':=by simpa using he
     have H:Hid (lT f z0 (l.take (k+1))=max (lT f z0 (l.take k)) (f (aR l k))):=bHn r;have s:Hid (∀W,Sd w.heap.size w W->Sj prog g (#[.agg #[U G (aR l k).price,U G (aR l k).bQ,U G (aR l k).sup]]++lb) W λe W'=>e=Y (U G (f (aR l k)))/\Sd W.heap.size W W'):=λW hW=>HF.out.tells W hW _ (mZ r)
     generalize f (aR l k)=z at H s;generalize aR l k=x at d0 t u s;generalize lT f z0 (l.take k)=m at H p;clear n he;go_upto_region 7 with fail;have M:AB (wr.alloc (R #[U G x.price,U G x.bQ,U G x.sup] 218)) wr.heap.size x:=RU wr _;have c:=gW wr (R #[U G x.price,U G x.bQ,U G x.sup] 218);have a6:wr.heap.size≠tb:=λe=>by have:=SK p;omega
     generalize wr.alloc (R #[U G x.price,U G x.bQ,U G x.sup] 218)=V2 at M c⊢;generalize wr.heap.size=xb at M a6⊢;have P:=ah (cZ HB.out c);have L:=rR p c;have K:=rR y c;have a2:=ah K;have t2:=bT (j:=0) L rfl;clear p y c HB d0 t u;have n2:=bT (j:=0) K rfl;have F:=bT (j:=0) M rfl;have x1:=bT (j:=1) M rfl;have x2:=bT (j:=2) M rfl;have a4:=ah L;clear L K M;go_region_with (go_at_fn g;refine(s.out _ ?_).mono ?_;(refine cZ P.out ?_;(repeat' first|assumption|exact RS _ _|exact au|refine Um ?_|refine TR ?_ ?_ _|(simp;done)|(simp;omega)));rintro e N ⟨rfl,d⟩;(have D:N.heap[tb]? = A_ (R #[U G m] 3 (0,0)):=rR (w:=V2.drew) a4.out d;have c5:=bT (j:=0) D rfl;have f5:=qO (j:=0) D))
     all_goals
      have a5:=ah D;have a0:=ah (cZ (w1:=V2.drew) P.out.drew d);have a3:=ah (rR (w:=V2.drew) a2.out d);clear d D c5 f5 t2 n2 F x1 x2;go_wp2_with fail;go_roundw
      case rel=>exact⟨k+1,r,by go_num,by rw[H.out];exact qc (j:=0) _ a5.out,(Xj _ _ _ _ (Nat.ne_of_lt C)).trans a3.out,a0.out.setCell (Nat.le_of_lt C) _⟩
      case measure=>simp[intOf];omega
    ·obtain rfl:k=l.length:=o7;rw[Vd]at p
     have HK:Hid (∀ca,Sj prog 199 #[J (A_ ⟨b,off,B_⟩) l.length ca,.func (.func 200) #[] #[E (A_ ⟨w.heap.size,0,B_⟩),E (A_ ⟨tb,0,B_⟩)]] wr λe w'=>∃v',e=Y v'/\w'.ownsRow wr.heap.size 218 3 v' (l.filter λx=>f x == lT f z0 l).length (eX (l.filter λx=>f x == lT f z0 l))/\Sd wr.heap.size wr w'):=λca=>
      Ry _ ca l _ _ _ wr (HA.out.below n) hl (aY3 (HF.out.later n) (bT (j:=0) y rfl) (bT (j:=0) p rfl))
     clear n p y;go_wp2_with fail;refine(HK.out _).mono ?_;rintro e w9 ⟨v',rfl,B,X⟩;have HO:Hid (w9.ownsRow w.heap.size 218 3 v' (gJ f l).length (eX (gJ f l))):=by rw[T.out];exact qB B HB.out.size
     have a1:=ah (cZ HB.out X);clear B X;go_wp2_with fail;go_ret;exact⟨_,rfl,HO.out,a1.out⟩
 ·have A:((l.length:Int) == 0)=G_:=beq_iff_eq.2 o7
  have HE:Hid (gJ f l=[]):=by
   obtain rfl:l=[]:=List.length_eq_zero_iff.1 o7;rfl
  go_enter func147,ntmps147;go_wp2_with fail;go_ret;refine⟨_,rfl,?_,c⟩;rw[HE.out];exact Uo _ _ _ _
def FL(a:Option J_)(cap:Nat)(l:List Pt)(g:Nat)(lb:Array D_)(f:Pt->Int)(w:C_)(h:oK w a l)(q:l.length<=1000)(n:rH g lb f l w)(k:∀x∈l,-9000000000000000000<=f x/\f x<=9000000000000000000):
  Sj prog 149 #[J a l.length cap,.func (.func g) #[] lb] w λe w'=>∃v',e=Y v'/\w'.ownsRow w.heap.size 218 3 v' (eP f l).length (eX (eP f l))/\Sd w.heap.size w w':=by
 have b:=gW w (R #[.func (.func g) #[] lb] 216);have m:(w.alloc (R #[.func (.func g) #[] lb] 216)).heap[w.heap.size]? = _:=RU w _
 have o:Hid (∀ca,Sj prog 147 #[J a l.length ca,.func (.func 201) #[] #[E (A_ ⟨w.heap.size,0,B_⟩)]] (w.alloc (R #[.func (.func g) #[] lb] 216)) λe w'=>∃v',e=Y v'/\w'.ownsRow (w.alloc (R #[.func (.func g) #[] lb] 216)).heap.size 218 3 v' (eP f l).length (eX (eP f l))/\Sd (w.alloc (R #[.func (.func g) #[] lb] 216)).heap.size (w.alloc (R #[.func (.func g) #[] lb] 216)) w'):=λca=>
  KF a ca l _ _ (λx=>-f x) _ (h.below b) q (aXb (n.later b) (bT (j:=0) m rfl) k)
 clear m h n;go_enter func149,ntmps149;go_wp2_with fail;refine(o.out _).mono ?_;rintro e r ⟨v',rfl,c,d⟩;have p:=ah (qB c b.size);have i:=ah (cZ b d);clear c d b;go_wp2_with fail;go_ret;exact⟨_,rfl,p.out,i.out⟩
def Rx(a:Option J_)(cap:Nat)(l:List Pt)(g:Nat)(lb:Array D_)(q:Pt->Bool)(w:C_)(h:oK w a l)(k:l.length<=1000)(d:Cx g lb q l w):
  Sj prog 153 #[J a l.length cap,.func (.func g) #[] lb] w λe w'=>e=Y (.bool (nJ q l))/\Sd w.heap.size w w':=by
 have i:Hid (∀ca,Sj prog 199 #[J a l.length ca,.func (.func g) #[] lb] w λe w'=>∃v',e=Y v'/\w'.ownsRow w.heap.size 218 3 v' (l.filter q).length (eX (l.filter q))/\Sd w.heap.size w w'):=λca=>Ry a ca l g lb q w h k d
 have j:Hid (nJ q l=(((l.filter q).length:Int) == (l.length:Int))):=rfl;clear h d;go_enter func153,ntmps153;go_wp2_with fail;refine(i.out _).mono ?_;rintro e n ⟨v',rfl,b,c⟩;obtain⟨m,f,rfl,_,_⟩:=wo b;clear b;go_wp2_with fail;go_ret;exact⟨by rw[j.out];rfl,c⟩
def NK(x:Pt)(w:C_):
  Sj prog 148 #[.agg #[U G x.price,U G x.bQ,U G x.sup]] w λe w'=>e=Y (U G (bI x))/\Sd w.heap.size w w':=by
 have a:Hid (bI x=min x.bQ x.sup):=rfl;go_enter func148,ntmps148;go_wp2;go_ret;exact⟨by rw[a.out];first|rfl|(congr 2;omega),gW w _⟩
def NJ(x:Pt)(g:x.Small)(w:C_):
  Sj prog 155 #[.agg #[U G x.price,U G x.bQ,U G x.sup]] w λe w'=>e=Y (U G (sI x))/\Sd w.heap.size w w':=by
 have a:Hid (sI x=x.bQ - x.sup):=rfl;obtain⟨_,⟨b,c⟩,⟨d,f⟩⟩:=g;go_enter func155,ntmps155;go_wp2;go_ret;exact⟨by rw[a.out];rfl,gW w _⟩
def aGv(a b:Int)(d:-1099511627776<=a/\a<=1099511627776)(i:-1099511627776<=b/\b<=1099511627776)(w:C_):
  Sj prog 151 #[U G a,U G b] w λe w'=>e=Y (U G (tq a b))/\w'=w:=by
 have c:Hid (tq a b=max a b - min a b):=rfl;obtain⟨f,g⟩:=d;obtain⟨j,k⟩:=i;go_enter func151,ntmps151;go_wp2;go_ret;exact⟨by rw[c.out];rfl,rfl⟩
def aUd(l:List Pt)(w:C_):rH 148 #[] bI l w:=
 ⟨enters_of func148 k7 rfl,λW _ x _=>NK x W⟩
def aUb(b:∀x∈l,x.Small)(w:C_):rH 150 #[] jZ l w:=by
 refine⟨enters_of func150 k7 rfl,λW _ x c=>?_⟩;show Sj prog 150 #[.agg #[U G x.price,U G x.bQ,U G x.sup]] W _;have f:Hid (jZ x=tq x.bQ x.sup):=rfl;have a:Hid x.Small:=b x c;clear b c;go_enter func150,ntmps150;go_wp2_with fail;refine(aGv _ _ a.out.d a.out.s _).mono ?_;rintro e i ⟨rfl,g⟩;subst g;go_wp2_with fail;go_ret;exact⟨by rw[f.out];rfl,gW W _⟩
def LB(l:List Pt)(w:C_):rH 152 #[] Pt.price l w:=by
 refine⟨enters_of func152 k7 rfl,λW _ x a=>?_⟩;show Sj prog 152 #[.agg #[U G x.price,U G x.bQ,U G x.sup]] W _;go_enter func152,ntmps152;go_wp2_with fail;go_ret;exact⟨rfl,gW W _⟩
def aUe(b:∀x∈l,x.Small)(w:C_):Cx 154 #[] yS l w:=by
 refine⟨enters_of func154 k7 rfl,λW _ x c=>?_⟩;show Sj prog 154 #[.agg #[U G x.price,U G x.bQ,U G x.sup]] W _;have f:Hid (yS x=decide (sI x>0)):=rfl;have g:Hid x.Small:=b x c;clear b c;go_enter func154,ntmps154;go_wp2_with fail;refine(NJ x g.out _).mono ?_;rintro e i ⟨rfl,a⟩;have d:Hid (Sd W.heap.size W i):=cZ (gW W _) a;clear a;go_wp2_with fail;go_ret;exact⟨by rw[f.out];rfl,d.out⟩
def aUa(b:∀x∈l,x.Small)(w:C_):Cx 156 #[] xW l w:=by
 refine⟨enters_of func156 k7 rfl,λW _ x c=>?_⟩;show Sj prog 156 #[.agg #[U G x.price,U G x.bQ,U G x.sup]] W _;have f:Hid (xW x=decide (sI x<0)):=rfl;have g:Hid x.Small:=b x c;clear b c;go_enter func156,ntmps156;go_wp2_with fail;refine(NJ x g.out _).mono ?_;rintro e i ⟨rfl,a⟩;have d:Hid (Sd W.heap.size W i):=cZ (gW W _) a;clear a;go_wp2_with fail;go_ret;exact⟨by rw[f.out];rfl,d.out⟩
def aUc(c:∀x∈l,x.Small){ab:Nat}(i:-1099511627776<=around/\around<=1099511627776)(b:w.cell? ⟨ab,0,B_⟩=A_ (U G around)):rH 157 #[E (A_ ⟨ab,0,B_⟩)] (jJ around) l w:=by
 refine⟨enters_of func157 k7 rfl,λW a x d=>?_⟩;show Sj prog 157 #[.agg #[U G x.price,U G x.bQ,U G x.sup],E (A_ ⟨ab,0,B_⟩)] W _;have f:Hid (jJ around x=tq x.price around):=rfl;have g:Hid x.Small:=c x d;have k:=iN (gW W (R #[U G x.price,U G x.bQ,U G x.sup] 218)) (iN a b);clear c d a b;go_enter func157,ntmps157;go_wp2_with fail;refine(aGv _ _ g.out.p i _).mono ?_;rintro e m ⟨rfl,j⟩;subst j;go_wp2_with fail;go_ret;exact⟨by rw[f.out];rfl,gW W _⟩
def Qu(c:-1099511627776<=a/\a<=1099511627776)(d:-1099511627776<=b/\b<=1099511627776):-9000000000000000000<=tq a b/\tq a b<=9000000000000000000:=by
 unfold tq;omega
def bD6{a:Nat}(h:w.ownsRow a t 3 v l.length (eX l))(hk:k<l.length):
  ∃g cap,v=J (A_ ⟨g,0,B_⟩) l.length cap/\a<=g/\aF w g (k*3) (U G (aR l k).price)/\aF w g (k*3+1) (U G (aR l k).bQ)/\aF w g (k*3+2) (U G (aR l k).sup):=by
 obtain⟨g,cap,rfl,b,_⟩:=h.form o7;obtain⟨h1,h2,h3⟩:=aGy hk;exact⟨g,cap,rfl,b,(h.cellAt _ o7).trans h1,(h.cellAt _ o7).trans h2,(h.cellAt _ o7).trans h3⟩
def bB9(a:Option J_)(cap:Nat)(l:List Pt)(around:Int)(w:C_)(h:oK w a l)(hl:l.length<=1000)(hs:∀x∈l,x.Small)(ha:-1099511627776<=around/\around<=1099511627776):
  Sj prog 113 #[J a l.length cap,U G around] w λe w'=>e=Y (.agg #[U G (bH l around).price,U G (bH l around).ak,U G (bH l around).jN])/\bW w w':=by
 have HA:=ah h;have HS:=ah hs;have HR:=ah ha;have HC:Hid (bH l around=KH l around):=(aN1 l around).symm;clear h hs ha;go_enter func113,ntmps113;go_wp2_with fail
 have b3:rM ((w.alloc (R #[U G around] 3)).alloc (R #[U G 0,U G 0,U G 0] 123)) (w.heap.size+1):=by
  have:=RU (w.alloc (R #[U G around] 3)) (R #[U G 0,U G 0,U G 0] 123);unfold rM
  simpa using this
 have b0:aF ((w.alloc (R #[U G around] 3)).alloc (R #[U G 0,U G 0,U G 0] 123)) w.heap.size 0 (U G around):=iN (gW _ _) (bT (j:=0) (RU w _) rfl);have E:bW w ((w.alloc (R #[U G around] 3)).alloc (R #[U G 0,U G 0,U G 0] 123)):=cZ (gW w _) (gW _ _);generalize(w.alloc (R #[U G around] 3)).alloc (R #[U G 0,U G 0,U G 0] 123)=W0 at b3 b0 E⊢;refine(KF a _ l _ _ bI W0 (HA.below E) hl (aUd l W0)).mono ?_;rintro e w1 ⟨v1,rfl,K,X⟩;have i:Hid (rM w1 (w.heap.size+1)):=b3.below X;have b5:Hid (aF w1 w.heap.size 0 (U G around)):=iN X b0;have a4:Hid (bW w w1):=cZ E X;have D:Hid (bH l around=if tZ (gJ bI l)=G_ then⟨0,0,0⟩else Cb (aR (iR around (eP jZ (gJ bI l))) 0)):=HC;have z:Hid (∀x∈gJ bI l,x.Small):=λx B=>HS x (MR B)
 have a0:(gJ bI l).length<=1000:=RV (MQ bI l) hl;have W:Hid (w1.ownsRow w.heap.size 218 3 v1 (gJ bI l).length (eX (gJ bI l))):=qB K E.size;obtain⟨ao,c1,rfl,_,_⟩:=wo K;clear b3 b0 E K X HS HC HA hl;generalize gJ bI l=l1 at D z a0 W⊢
 by_cases h0:0<l1.length
 ·have u:((l1.length:Int) == 0)=E_:=RG.2 o7;have b2:(0:Int)<(l1.length:Int):=o7;obtain⟨g,e3,hv,d0,d1,d2⟩:=aHn W h0;simp only[TD,true_and]at hv;obtain⟨rfl,rfl⟩:=hv
  have S:Hid (tZ l1=decide (bI (aR l1 0)<1)):=by
   show tZ l1=_;unfold tZ;rw[u];rfl
  rw[Nat.zero_mul]at d0;rw[Nat.zero_mul,Vz]at d1 d2;generalize aR l1 0=x0 at d0 d1 d2 S;go_wp2_with fail;refine(NK x0 _).mono ?_;rintro e w2 ⟨rfl,F⟩;have k:Hid (rM w2 (w.heap.size+1)):=i.below F;have b6:Hid (aF w2 w.heap.size 0 (U G around)):=iN F b5;have a5:Hid (bW w w2):=cZ a4 F;have c5:Hid (w2.ownsRow w.heap.size 218 3 (J (A_ ⟨g,0,B_⟩) l1.length c1) l1.length (eX l1)):=Bf W F au;clear F i b5 a4 W d0 d1 d2
  by_cases ht:bI x0<1
  ·have n:Hid (bH l around=⟨0,0,0⟩):=by rw[D.out,S.out,RI ht];rfl
   have q0:=bT (j:=0) k rfl;have q1:=bT (j:=1) k rfl;have q2:=bT (j:=2) k rfl;have f0:=qO (j:=0) k;have f1:=qO (j:=1) k;have f2:=qO (j:=2) k;have r:=qc (j:=2) (U G 0) (qc (j:=1) (U G 0) (qc (j:=0) (U G 0) k));have m:Hid (bW w (((w2.setCell ⟨w.heap.size+1,0,B_⟩ (U G 0)).setCell ⟨w.heap.size+1,1,B_⟩ (U G 0)).setCell ⟨w.heap.size+1,2,B_⟩ (U G 0))):=((a5.setCell (Uk _) _).setCell (Uk _) _).setCell (Uk _) _;go_wp2_with fail;generalize((w2.setCell ⟨w.heap.size+1,0,B_⟩ (U G 0)).setCell ⟨w.heap.size+1,1,B_⟩ (U G 0)).setCell ⟨w.heap.size+1,2,B_⟩ (U G 0)=V at r m⊢;have z0:=bT (j:=0) r rfl;have z1:=bT (j:=1) r rfl;have z2:=bT (j:=2) r rfl;refine UA (by simp[results,results113,go_sem,z0,z1,z2];try rfl) rfl ?_;exact⟨by rw[n.out],m⟩
  ·have n:Hid (bH l around=Cb (aR (iR around (eP jZ l1)) 0)):=by rw[D.out,S.out,RH ht];rfl
   clear D S;have c3:Hid (∀x∈l1,-9000000000000000000<=jZ x/\jZ x<=9000000000000000000):=λx B=>Qu (z x B).d (z x B).s
   have T:Hid (0<(eP jZ l1).length):=yE _ h0;have o:Hid (∀x∈eP jZ l1,x.Small):=λx B=>z x (DT B)
   have t:(eP jZ l1).length<=1000:=RV (aD7 jZ l1) a0;obtain⟨aw,cw,d3,b⟩:=oK.pI c5;simp only[TD,true_and]at d3;obtain⟨rfl,rfl⟩:=d3;have c0:Hid (∀ca,Sj prog 149 #[J (A_ ⟨g,0,B_⟩) l1.length ca,.func (.func 150) #[] #[]] w2 λe w'=>∃v',e=Y v'/\w'.ownsRow w2.heap.size 218 3 v' (eP jZ l1).length (eX (eP jZ l1))/\bW w2 w'):=λca=>FL _ ca l1 _ _ jZ w2 b a0 (aUb z w2) c3
   clear b c3 z;go_wp2_with fail;refine(c0 _).mono ?_;rintro e w3 ⟨v2,rfl,L,Z⟩;have a9:Hid (rM w3 (w.heap.size+1)):=k.below Z;have b7:Hid (aF w3 w.heap.size 0 (U G around)):=iN Z b6;have b8:Hid (bW w w3):=cZ a5 Z;obtain⟨a2,c2,rfl,b⟩:=oK.pI L;have HI:Hid (oK w3 a2 (eP jZ l1)):=b;clear L Z b k b6 a5 c5 c0 a0 h0 u b2 ht;generalize eP jZ l1=l2 at T o t HI n⊢;have Q:Hid (iR around l2=if nJ yS l2=G_ then gJ Pt.price l2 else if nJ xW l2=G_ then eP Pt.price l2 else eP Pt.price (eP (jJ around) l2)):=rfl;have a8:Hid (∀x∈l2,-9000000000000000000<=Pt.price x/\Pt.price x<=9000000000000000000):=λx B=>by have:=(o x B).p;omega
   have c4:Hid (∀x∈l2,-9000000000000000000<=jJ around x/\jJ around x<=9000000000000000000):=λx B=>Qu (o x B).p HR
   go_upto_block 0 with fail;go_cut [0] from 21 to 38 (λv wc=>wc.ownsRow w3.heap.size 218 3 v (iR around l2).length (eX (iR around l2))/\bW w3 wc)
   case first=>
    go_wp2_with fail;refine(Rx a2 _ l2 _ _ yS w3 HI t (aUe o w3)).mono ?_;rintro e w4 ⟨rfl,c7⟩;have C:=ah c7;clear c7;cases hup:nJ yS l2 with
    |true=>
     have HL:Hid (iR around l2=gJ Pt.price l2):=by rw[Q.out,hup];rfl
     go_wp2_with fail;refine(KF a2 _ l2 _ _ Pt.price w4 (HI.below C) t (LB l2 w4)).mono ?_;rintro e P ⟨v5,rfl,M,H⟩;have d6:Hid (P.ownsRow w3.heap.size 218 3 v5 (iR around l2).length (eX (iR around l2))):=by rw[HL.out];exact qB M C.size
     have f:Hid (bW w3 P):=cZ C H;clear M H;go_wp2_with fail;go_meet;exact⟨d6,f⟩
    |false=>
     go_wp2_with fail;refine(Rx a2 _ l2 _ _ xW w4 (HI.below C) t (aUa o w4)).mono ?_;rintro e P ⟨rfl,H⟩;have f:Hid (bW w3 P):=cZ C H;clear H;cases hdn:nJ xW l2 with
     |true=>
      have HL:Hid (iR around l2=eP Pt.price l2):=by rw[Q.out,hup,hdn];rfl
      go_wp2_with fail;refine(FL a2 _ l2 _ _ Pt.price P (HI.below f) t (LB l2 P) a8).mono ?_;rintro e O ⟨v6,rfl,c,I⟩;have d7:Hid (O.ownsRow w3.heap.size 218 3 v6 (iR around l2).length (eX (iR around l2))):=by rw[HL.out];exact qB c f.size
      have y:Hid (bW w3 O):=cZ f I;clear c I;go_wp2_with fail;go_meet;exact⟨d7,y⟩
     |false=>
      have HL:Hid (iR around l2=eP Pt.price (eP (jJ around) l2)):=by rw[Q.out,hup,hdn];rfl
      go_wp2_with fail;refine(FL a2 _ l2 _ _ (jJ around) P (HI.below f) t (aUc o HR (iN f b7)) c4).mono ?_;rintro e O ⟨v6,rfl,c,I⟩;have y:Hid (bW w3 O):=cZ f I;obtain⟨a6,c6,rfl,b⟩:=oK.pI c;have b9:=ah b;have c9:(eP (jJ around) l2).length<=1000:=RV (aD7 (jJ around) l2) t;have a1:Hid (∀x∈eP (jJ around) l2,-9000000000000000000<=Pt.price x/\Pt.price x<=9000000000000000000):=λx B=>a8 x (DT B)
      clear c I b;generalize eP (jJ around) l2=l6 at b9 c9 a1 HL⊢;go_wp2_with fail;refine(FL a6 _ l6 _ _ Pt.price O b9 c9 (LB l6 O) a1).mono ?_;rintro e w7 ⟨v7,rfl,N,c8⟩;have d8:Hid (w7.ownsRow w3.heap.size 218 3 v7 (iR around l2).length (eX (iR around l2))):=by rw[HL.out];exact qB N y.size
      have d4:Hid (bW w3 w7):=cZ y c8;clear N c8;go_wp2_with fail;go_meet;exact⟨d8,d4⟩
   case rest=>
    obtain⟨ho,b1⟩:=hcut;have a3:=aDy around T;have b4:=o _ (bC2 (around:=around) T);obtain⟨g3,e4,rfl,e6,d0,d1,d2⟩:=bD6 ho a3;have b2:(0:Int)<((iR around l2).length:Int):=o7;have e1:Hid (rM wc.drew (w.heap.size+1)):=(a9.below b1:rM wc (w.heap.size+1));have e2:¬w.heap.size+1=g3:=λe=>by have:=SK a9;omega
    have e5:¬g3=w.heap.size+1:=λe=>e2 e.symm
    have d5:Hid (bW w wc.drew):=(cZ b8 b1).drew;rw[Nat.zero_mul]at d0;rw[Nat.zero_mul,Vz]at d1 d2;generalize(iR around l2).length=n3 at b2 a3⊢;generalize aR (iR around l2) 0=x at d0 d1 d2 n b4;have HX:Hid x.Small:=b4;have a7:Hid ((bH l around).price=x.price/\(bH l around).ak=bI x/\(bH l around).jN=sI x):=by rw[n.out];exact⟨rfl,rfl,rfl⟩
    clear ho b1 b4 Q a8 c4 HI o T a9 b7 b8 n;go_wp2_with fail
    go_region_held3 (λw'=>w'.cell? ⟨g3,0,B_⟩=A_ (.int .i64 x.price)/\w'.cell? ⟨g3,1,B_⟩=A_ (.int .i64 x.bQ)/\w'.cell? ⟨g3,2,B_⟩=A_ (.int .i64 x.sup))
     (first|go_keep|(go_split_ands;refine⟨?_,?_,?_⟩<;>(refine iN A ?_;assumption)))
     (first|(go_at_call 148;refine(NK x _).mono ?_;rintro e P ⟨rfl,A⟩;have d9:Hid (rM P (w.heap.size+1)):=e1.out.below A;have f:Hid (bW w P):=cZ d5.out A)|(go_at_call 155;refine(NJ x HX _).mono ?_;rintro e O ⟨rfl,A⟩;have q:=d9.below A;have q0:=bT (j:=0) q rfl;have q1:=bT (j:=1) q rfl;have q2:=bT (j:=2) q rfl;have f0:=qO (j:=0) q;have f1:=qO (j:=1) q;have f2:=qO (j:=2) q;have y:Hid (bW w O):=cZ f A;have e0:Hid (rM O (w.heap.size+1)):=q;clear q))
    have r:=qc (j:=2) (U G (sI x)) (qc (j:=1) (U G (bI x)) (qc (j:=0) (U G x.price) e0));have m:Hid (bW w (((O.setCell ⟨w.heap.size+1,0,B_⟩ (U G x.price)).setCell ⟨w.heap.size+1,1,B_⟩ (U G (bI x))).setCell ⟨w.heap.size+1,2,B_⟩ (U G (sI x)))):=((y.setCell (Uk _) _).setCell (Uk _) _).setCell (Uk _) _;rename_i hHeld9;clear hHeld9 q0 q1 q2 f0 f1 f2 d0 d1 d2;generalize((O.setCell ⟨w.heap.size+1,0,B_⟩ (U G x.price)).setCell ⟨w.heap.size+1,1,B_⟩ (U G (bI x))).setCell ⟨w.heap.size+1,2,B_⟩ (U G (sI x))=V at r m⊢;have z0:=bT (j:=0) r rfl;have z1:=bT (j:=1) r rfl;have z2:=bT (j:=2) r rfl;clear r;go_wp2_with fail;refine UA (by simp[results,results113,go_sem,z0,z1,z2];try rfl) rfl ?_;exact⟨by rw[a7.out.1,a7.out.2.1,a7.out.2.2],m⟩
 ·have u:((l1.length:Int) == 0)=G_:=beq_iff_eq.2 o7
  have n:Hid (bH l around=⟨0,0,0⟩):=by
   show bH l around=_;rw[D.out];exact RF (by unfold tZ;rw[u];rfl)
  have q0:=bT (j:=0) i rfl;have q1:=bT (j:=1) i rfl;have q2:=bT (j:=2) i rfl;have f0:=qO (j:=0) i;have f1:=qO (j:=1) i;have f2:=qO (j:=2) i;have r:=qc (j:=2) (U G 0) (qc (j:=1) (U G 0) (qc (j:=0) (U G 0) i));have m:Hid (bW w (((w1.setCell ⟨w.heap.size+1,0,B_⟩ (U G 0)).setCell ⟨w.heap.size+1,1,B_⟩ (U G 0)).setCell ⟨w.heap.size+1,2,B_⟩ (U G 0))):=((a4.setCell (Uk _) _).setCell (Uk _) _).setCell (Uk _) _;go_wp2_with fail;generalize((w1.setCell ⟨w.heap.size+1,0,B_⟩ (U G 0)).setCell ⟨w.heap.size+1,1,B_⟩ (U G 0)).setCell ⟨w.heap.size+1,2,B_⟩ (U G 0)=V at r m⊢;have z0:=bT (j:=0) r rfl;have z1:=bT (j:=1) r rfl;have z2:=bT (j:=2) r rfl;refine UA (by simp[results,results113,go_sem,z0,z1,z2];try rfl) rfl ?_;exact⟨by rw[n.out],m⟩
def aBg(eb s:Nat)(k:bC)(M:aG)(w:C_)(h:Eg w eb k M)(d:s<2)(side:Int)(a:side=(s:Int)+1):
  Sj prog 85 #[E (A_ ⟨eb,0,B_⟩),U G side] w λe w'=>∃v,e=Y (.tuple #[v,.nilIface])/\w'.ownsRow w.heap.size 155 5 v (aP side M.L).length (oV (aP side M.L))/\Sd w.heap.size w w':=by
 have l:w.cell? ⟨eb,2,B_⟩=A_ (E (A_ ⟨k.bb,0,B_⟩)):=aj (j:=2) h.box rfl;have HE:Hid ((k.b.S s).map Ly.o=aP side M.L):=by show _=_;rw[a];exact h.bU.side s d
 have c:=ah a;have i:Hid _:=h.bk;clear h a;go_enter func85,ntmps85;go_wp2_with fail;refine(Iz k.bb k.m s k.b w i.out d side c.out).mono ?_;rintro e w1 ⟨v,rfl,h1,h2⟩;rw[HE.out,show(k.b.S s).length=(aP side M.L).length by rw[<-HE.out,TL]]at h1;have f:Hid _:=h1;have g:Hid _:=h2;clear h1 h2;go_wp2_with fail;go_ret2;exact⟨v,rfl,f.out,g.out⟩
def nL(L:List Ord):List Ord:=aP 1 L++aP 2 L
def Kv{L:List Ord}(h:dZ L):(nL L).length=L.length:=(EG h).length_eq
def GQ:(prog.info? 155).map (λi=>(i.zero,i.size,i.bytes))=A_ (A_ (.agg #[U G 0,U G 0,U G 0,U G 0,U G 0]),5,40):=k7
def aBf(eb:Nat)(k:bC)(M:aG)(w:C_)(h:Eg w eb k M):
  Sj prog 115 #[E (A_ ⟨eb,0,B_⟩)] w λe w'=>∃v,e=Y v/\w'.ownsRow w.heap.size 155 5 v (nL M.L).length (oV (nL M.L))/\Sd w.heap.size w w':=by
 obtain⟨K,u,A,B,C⟩:=Vw GQ
 have Q:(aP 1 M.L).length+(aP 2 M.L).length<=100:=by
  have h1:=Kv h.qV;have h2:=h.wK;unfold nL at h1;rw[Sl]at h1;omega
 have J:w.cell? ⟨eb,2,B_⟩=A_ (E (A_ ⟨k.bb,0,B_⟩)):=aj (j:=2) h.box rfl;have g:Hid ((k.b.S 0).map Ly.o=aP 1 M.L):=h.bU.side 0 d7;have i:Hid ((k.b.S 1).map Ly.o=aP 2 M.L):=h.bU.side 1 d7;have H:=ah h;clear h;go_enter func115,ntmps115;go_wp2_with fail;refine(Iz k.bb k.m 0 k.b w H.out.bk d7 1 rfl).mono ?_;rintro e w1 ⟨v1,rfl,h1,a⟩;rw[g.out,show(k.b.S 0).length=(aP 1 M.L).length by rw[<-g.out,TL]]at h1;have s:w1.cell? ⟨eb,2,B_⟩=A_ (E (A_ ⟨k.bb,0,B_⟩)):=aj (j:=2) (H.out.below a).box rfl;have G:Hid _:=h1;have d:=ah a;clear h1 a J;go_wp2_with fail;refine(Iz k.bb k.m 1 k.b w1 (H.out.below d.out).bk d7 2 rfl).mono ?_;rintro e w2 ⟨R,rfl,h2,c⟩;rw[i.out,show(k.b.S 1).length=(aP 2 M.L).length by rw[<-i.out,TL]]at h2;have p:w2.ownsRow w.heap.size 155 5 v1 (aP 1 M.L).length (oV (aP 1 M.L)):=jw G.out c au;obtain⟨F,N,rfl,_,_⟩:=lJ h2;have q:Hid (zl w2 F (aP 2 M.L).length (oV (aP 2 M.L))):=zl.pI h2 (RS _ _);have l:=ah p;have f:=ah (aJ d.out c);have z:w.heap.size<=w2.heap.size:=f.out.size;have D:(aP 1 M.L).length+(aP 2 M.L).length<=maxLen:=by unfold maxLen;omega
 clear h2 c p s;go_wp2_with (at_builtin;refine bI1 _ rfl _ _ 127 rfl w.heap.size 155 K _ 5 40 underlying127 u A B C r7 o7 v1 (aP 1 M.L).length (oV (aP 1 M.L)) r7 l.out F (aP 2 M.L).length N (oV (aP 2 M.L)) r7 (yH _) q.out (Ng _) D o7 z ?_;intro O w3 h3 n x;have I:Hid _:=h3;have r:Hid (Out (λj=>v1.ownBlock=A_ j) w2 w3):=Out.uf n (λ_ e=>e);clear h3 n x);go_ret
 have t:Sd w.heap.size w w3:=by
  have ho:Out (λj=>v1.ownBlock=A_ j) w w3:=(Out.of_below f.out au).trans r.out (aK.refl _ _)
  exact⟨ho.os,ho.tape,ho.output,ho.size,λj P=>by
   by_cases y:j<w.heap.size
   ·exact ho.block j y (λe=>by have:=(l.out.lt j e).1;omega)
   ·omega⟩
 refine⟨O,rfl,?_,t⟩;have:=I.out;unfold nL;rw[Sl,BS];exact this
def IG(q:AU):D_:=.agg #[U G q.price,U G q.ak,U G q.jN]
def La(eb:Nat)(k:bC)(M:aG)(w:C_)(h:Eg w eb k M)(a1:1<=M.la/\M.la<=1000000):
  Sj prog 83 #[E (A_ ⟨eb,0,B_⟩)] w λe w'=>e=Y (IG (kR M))/\Sd w.heap.size w w':=by
 have d:=h.qV;have hL:=h.wK;have a0:(nL M.L).length<=100:=by rw[Kv d];exact hL
 have HP:Hid (bG (nL M.L) M.la=bG M.L M.la):=aO2 (EG d) M.la;have V:Hid (∀o∈nL M.L,ET o.price):=λo ho=>by have:=d.ok o ((EG d).mem_iff.1 ho);exact WalkArith.wf_i64 o7
 have z:∀x∈bG M.L M.la,x.Small:=aO3 o7 (λo ho=>by have:=d.ok o ho;omega) o7;have T:=ah z;have X:(bG M.L M.la).length<=1000:=by have:=aO1 M.L M.la;omega
 have H:=ah h;have b:=aM w (R #[U G 0,U G 0,U G 0] 123);have a:=RU w (R #[U G 0,U G 0,U G 0] 123);clear h d z;cases ha:kX M.ph with
 |false=>
  have N:Hid (kR M=⟨0,0,0⟩):=by show _=_;unfold kR;rw[ha];rfl
  have B:=ah ha;clear ha;go_enter func83,ntmps83;go_upto_region 1 with fail;generalize w.alloc (R #[U G 0,U G 0,U G 0] 123)=w1 at b a⊢;have W:w1.cell? ⟨eb,5,B_⟩=A_ (U G M.ph):=aj (j:=5) (H.out.below b).box rfl;have z0:=aj (j:=0) a rfl;have z1:=aj (j:=1) a rfl;have z2:=aj (j:=2) a rfl;have y0:=aI (j:=0) a;have y1:=aI (j:=1) a;have y2:=aI (j:=2) a;have q:=ah b;have r:Hid _:=a;clear b a;go_wp2_with fail;refine(Pe M.ph w1).mono ?_;rintro e l ⟨rfl,Z⟩;subst Z;rw[B.out];go_wp2_with fail;have A:=bg (j:=2) (U G 0) (bg (j:=1) (U G 0) (bg (j:=0) (U G 0) r.out));have f:Hid (Sd w.heap.size w (((l.setCell ⟨w.heap.size,0,B_⟩ (U G 0)).setCell ⟨w.heap.size,1,B_⟩ (U G 0)).setCell ⟨w.heap.size,2,B_⟩ (U G 0))):=((q.out.setCell (p:=⟨w.heap.size,0,B_⟩) au _).setCell (p:=⟨w.heap.size,1,B_⟩) au _).setCell (p:=⟨w.heap.size,2,B_⟩) au _;clear z0 z1 z2 y0 y1 y2 W;generalize((l.setCell ⟨w.heap.size,0,B_⟩ (U G 0)).setCell ⟨w.heap.size,1,B_⟩ (U G 0)).setCell ⟨w.heap.size,2,B_⟩ (U G 0)=w7 at A f⊢;have q0:w7.cell? ⟨w.heap.size,0,B_⟩=A_ (U G 0):=aj (j:=0) A rfl;have q1:w7.cell? ⟨w.heap.size,1,B_⟩=A_ (U G 0):=aj (j:=1) A rfl;have q2:w7.cell? ⟨w.heap.size,2,B_⟩=A_ (U G 0):=aj (j:=2) A rfl;refine UA (by simp[results,results83,go_sem,q0,q1,q2];try rfl) rfl ?_;exact⟨by rw[N.out];rfl,f.out⟩
 |true=>
  have N:Hid (kR M=bH (bG M.L M.la) M.la):=by show _=_;unfold kR;rw[ha];rfl
  have B:=ah ha;clear ha;go_enter func83,ntmps83;go_upto_region 1 with fail;generalize w.alloc (R #[U G 0,U G 0,U G 0] 123)=w1 at b a⊢;have h1:=H.out.below b;have W:w1.cell? ⟨eb,5,B_⟩=A_ (U G M.ph):=aj (j:=5) h1.box rfl;have c1:w1.cell? ⟨eb,1,B_⟩=A_ (E (A_ ⟨k.nb,0,B_⟩)):=aj (j:=1) h1.box rfl;have H1:=ah h1;have q:=ah b;have r:Hid _:=a;clear b a h1;go_wp2_with fail;refine(Pe M.ph w1).mono ?_;rintro e l ⟨rfl,Z⟩;subst Z;rw[B.out];go_wp2_with fail;refine(Ra k.nb M.st M.dy M.an M.la l H1.out.bn).mono ?_;rintro e w2 ⟨rfl,i⟩;have H2:=ah (H1.out.below i);have O:Hid _:=aL r.out i au;have C:=ah (aJ q.out i);clear i W c1;go_wp2_with fail;refine(aBf eb k M w2 H2.out).mono ?_;rintro e w3 ⟨v3,rfl,y,s⟩;obtain⟨a3,n3,rfl,m⟩:=jV.pI y;have J:Hid _:=m;have P:Hid _:=aL O.out s au;have D:=ah (aJ C.out s);clear s y m;go_wp2_with fail;refine(aOy a3 n3 (nL M.L) M.la w3 J.out o7 V.out (WalkArith.wf_i64 o7)).mono ?_;rintro e w4 ⟨v4,rfl,v,t⟩;rw[HP.out]at v;obtain⟨a4,n4,rfl,n⟩:=oK.pI v;have K:Hid _:=n;have Q:Hid _:=aL P.out t au;have F:=ah (aJ D.out t);clear t v n;go_wp2_with fail;refine(bB9 a4 n4 (bG M.L M.la) M.la w4 K.out X T.out o7).mono ?_;rintro e w6 ⟨rfl,u⟩;have c:=aL Q.out u au;have I:=ah (aJ F.out u);have z0:=aj (j:=0) c rfl;have z1:=aj (j:=1) c rfl;have z2:=aj (j:=2) c rfl;have y0:=aI (j:=0) c;have y1:=aI (j:=1) c;have y2:=aI (j:=2) c;have S:Hid _:=c;clear c u;go_wp2_with fail;have g:=bg (j:=2) (U G (bH (bG M.L M.la) M.la).jN) (bg (j:=1) (U G (bH (bG M.L M.la) M.la).ak) (bg (j:=0) (U G (bH (bG M.L M.la) M.la).price) S.out));have f:Hid (Sd w.heap.size w (((w6.setCell ⟨w.heap.size,0,B_⟩ (U G (bH (bG M.L M.la) M.la).price)).setCell ⟨w.heap.size,1,B_⟩ (U G (bH (bG M.L M.la) M.la).ak)).setCell ⟨w.heap.size,2,B_⟩ (U G (bH (bG M.L M.la) M.la).jN))):=((I.out.setCell (p:=⟨w.heap.size,0,B_⟩) au _).setCell (p:=⟨w.heap.size,1,B_⟩) au _).setCell (p:=⟨w.heap.size,2,B_⟩) au _;clear z0 z1 z2 y0 y1 y2;generalize(((w6.setCell ⟨w.heap.size,0,B_⟩ (U G (bH (bG M.L M.la) M.la).price)).setCell ⟨w.heap.size,1,B_⟩ (U G (bH (bG M.L M.la) M.la).ak)).setCell ⟨w.heap.size,2,B_⟩ (U G (bH (bG M.L M.la) M.la).jN))=w7 at g f⊢;have q0:w7.cell? ⟨w.heap.size,0,B_⟩=A_ (U G (bH (bG M.L M.la) M.la).price):=aj (j:=0) g rfl;have q1:w7.cell? ⟨w.heap.size,1,B_⟩=A_ (U G (bH (bG M.L M.la) M.la).ak):=aj (j:=1) g rfl;have q2:w7.cell? ⟨w.heap.size,2,B_⟩=A_ (U G (bH (bG M.L M.la) M.la).jN):=aj (j:=2) g rfl;go_wp2_with fail;refine UA (by simp[results,results83,go_sem,q0,q1,q2];try rfl) rfl ?_;exact⟨by rw[N.out];rfl,f.out⟩
end Go.Proofs.YtpodibeogglplaaGreatDoor
