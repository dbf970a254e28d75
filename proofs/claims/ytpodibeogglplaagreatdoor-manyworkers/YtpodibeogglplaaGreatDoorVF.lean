/- ManyWorkers -/
import Derived.Test.YtpodibeogglplaaGreatDoorVE
import Derived.Stop.Asserts
import Derived.Lib.ItoaLen
import Derived.Deep.Upon
open Go.RowKit Go.Shelf
open Go.Value renaming int->U, pointer->E, slice->J
open Go.IntKind renaming i64->G
open Go.Obj renaming cells->R
open Go.Ending renaming returned->Y
open Go.Proofs.Tryz
open Bool renaming true->G_, false->E_, and_eq_true->SV, false_and->m_, false_or->XU, not_false->VO, true_and->L_, eq_iff_iff->Vm
open Go renaming World->C_, Value->D_, DataW->VN, heap_alloc_new->RU, Calls->Sj, Addr->J_, TypeId->RZ, TypeInfo->Yj
open Go.Lib renaming join->Yt, itoa->Wi, parseIntB->O_
open Go.Result renaming andThen->Zz
open Go.RowKit renaming Below->Sd
open Go.RowKit.Below renaming refl->RS, drew->Um, alloc->TR
open Go.World renaming ownsMap_made->Yk, block_lt_of_cell?->SN, cell?->SS, cell?_alloc_at->UM
open List renaming length_cons->SC, length_take->Tq, map_congr_left->SF, getElem?_eq_getElem->Tp, getElem?_map->Zo, mem_cons_self->SG, mem_cons_of_mem->SI, length_append->Sl, replicate->Zx, getElem?_eq_some_iff->Uz, take_succ_eq_append_getElem->SQ, map_append->TY, length_map->TL, map_cons->RY, map_nil->TV, mem_map->Ti, append_nil->UK, mem_map_of_mem->ZW, getD_eq_getElem?_getD->SY, length_filter_le->UC, filter_congr->Xz, map_singleton->YX, mem_iff_getElem->Yv, length_drop->WO, filter_cons->Xm
open Nat renaming le_trans->RV, lt_or_ge->Us, zero_le->Sv
open Option renaming some->A_, none->B_, map_eq_some_iff->Ul, getD_some->Sq
open Or renaming inr->RN, inl->RP
open Prod renaming fst->Zy
set_option linter.all false
set_option maxHeartbeats 4000000
set_option maxRecDepth 8000
namespace Go.Proofs.YtpodibeogglplaaGreatDoor
def BN(rs:List (Int×Int))(st dy p ti mo:Int):aG:=⟨rs,st,dy,p,p,ti,mo,[],[],[],1,0,0,0⟩
variable {wf:C_} {eb tb cb ct bb tk n:Nat} {b:aU} {rs:List (Int×Int)} {st dy p ti mo:Int} {W:C_} {a:Nat} {w w2 w3 w4 w':C_} {v:D_} {B:Nat} {α:Type} {f:α->List UInt8} {k j cap:Nat} {s:ByteArray} {sb:Nat} {ps:List MemPlace} {D:VN Unit} {d mb:Nat} {l:List Ord} {r now:Int} {P:Program} {o:Oper} {Q:Exit->Act->C_->Prop} {l':List Ord} {xs:List Int} {q:Int} {F:List Ord}
def aSk{nb:Nat}(f:wf.heap[eb]? = A_ (R #[E (A_ ⟨tb,0,B_⟩),E (A_ ⟨nb,0,B_⟩),E (A_ ⟨bb,0,B_⟩),J B_ 0 0,.map (A_ tk),U G 1,U G 0,U G ti,U G mo,U G 0,U G 0] 151 (0,0)))(g:wf.cell? ⟨tb,0,B_⟩=A_ (J (A_ ⟨cb,0,B_⟩) rs.length ct)/\jW wf cb 0 rs)(l:dU wf nb st dy p p)(k:Bk wf bb 0 b)(q:bD b.S [])(m:mQ wf tk 0 [])(d:tb<n/\cb<n)(hn:n<=nb/\n<=eb/\n<=tk/\n<=wf.heap.size)(o:∀j,b.foot bb j->n<=j)(i:¬b.foot bb tk):
  Eg wf eb ⟨tb,cb,ct,nb,bb,0,b,J B_ 0 0,tk,0⟩ (BN rs st dy p ti mo)/\∀j,(⟨tb,cb,ct,nb,bb,0,b,J B_ 0 0,tk,0⟩:bC).foot eb j->n<=j:=by
 have a:∀j,(⟨tb,cb,ct,nb,bb,0,b,J B_ 0 0,tk,0⟩:bC).foot eb j->n<=j:=λj c=>by
  rcases c with rfl|rfl|c|c|rfl
  ·exact hn.2.1
  ·exact hn.1
  ·exact o j c
  ·cases c
  ·exact hn.2.2.1
 refine⟨⟨f,g,Nat.lt_of_lt_of_le d.2 hn.2.2.2,l,k,q,World.ownsRow_nil _ _ _ _,m,i,au,λj c e=>?_⟩,a⟩;have h1:=a j e;rcases c with e1|e1
 ·have e2:j=tb:=e1;have:=d.1;omega
 ·have e2:j=cb:=e1;have:=d.2;omega
def aJd(w:C_):mQ (w.alloc (.map #[] 0)) w.heap.size 0 []:=by
 have:=Yk (H:=Unit) w prog 3 EO;exact⟨_,this,λ_=>rfl⟩
def aMy(e:n=a)(h:Bk W (n+2) 0 (aU.none_ n)):Bk W (a+2) 0 (aU.none_ a):=by subst e;exact h
def CF(w:C_)(rs:List (Int×Int))(st dy p ti mo:Int)(e:Ending)(w':C_):Prop:=∃(eb:Nat) (k:bC),e=Y (.tuple #[E (A_ ⟨eb,0,B_⟩),.nilIface])/\Eg w' eb k (BN rs st dy p ti mo)/\k.m=0/\(∀j,k.foot eb j->w.heap.size<=j)/\Sd w.heap.size w w'
def aFg(d:Sd w.heap.size w w2)(f:Sd w2.heap.size w2 w3)(g:Sd w3.heap.size w3 w4)(e:Sd w4.heap.size w4 wf)(o:w2.cell? ⟨tb,0,B_⟩=A_ (J (A_ ⟨cb,0,B_⟩) rs.length ct))(q:jW w2 cb 0 rs)(m:tb<w2.heap.size/\cb<w2.heap.size)(k:dU w3 w2.heap.size st dy p p)(i:Bk w4 bb 0 b)(z:bD b.S [])(x:∀j,b.foot bb j->w2.heap.size<=j)(s:mQ wf tk 0 [])(t:w2.heap.size<=tk)(r:¬b.foot bb tk)(l:w2.heap.size<=eb)(A:wf.heap[eb]? = A_ (R #[E (A_ ⟨tb,0,B_⟩),E (A_ ⟨w2.heap.size,0,B_⟩),E (A_ ⟨bb,0,B_⟩),J B_ 0 0,.map (A_ tk),U G 1,U G 0,U G ti,U G mo,U G 0,U G 0] 151 (0,0))):
  CF w rs st dy p ti mo (Y (.tuple #[E (A_ ⟨eb,0,B_⟩),.nilIface])) wf:=by
 have c:=aJ g e;have a:=aJ f c;obtain⟨u,v⟩:=aSk (n:=w2.heap.size) A ⟨vY o a,q.below a au⟩ (k.below c) (i.below e au) z s m ⟨au,l,t,a.size⟩ x r;exact⟨eb,_,rfl,u,rfl,λj y=>RV d.size (v j y),aJ d a⟩
def aZi(d:Sd w.heap.size w w2)(a:Sd w2.heap.size w2 w3)(b:Sd w3.heap.size w3 w4)(k:w2.cell? ⟨tb,0,B_⟩=A_ (J (A_ ⟨cb,0,B_⟩) rs.length ct))(l:jW w2 cb 0 rs)(g:tb<w2.heap.size/\cb<w2.heap.size)(f:dU w3 w2.heap.size st dy p p)(c:Bk w4 (w3.heap.size+2) 0 (aU.none_ w3.heap.size)):
  CF w rs st dy p ti mo (Y (.tuple #[E (A_ ⟨w4.heap.size+1,0,B_⟩),.nilIface])) ((w4.alloc (.map #[] 0)).alloc (R #[E (A_ ⟨tb,0,B_⟩),E (A_ ⟨w2.heap.size,0,B_⟩),E (A_ ⟨w3.heap.size+2,0,B_⟩),J B_ 0 0,.map (A_ w4.heap.size),U G 1,U G 0,U G ti,U G mo,U G 0,U G 0] 151)):=by
 have i:=a.size;have n:=b.size;exact aFg d a b (gu _ _ _) k l g f c bD.start (λj m=>RV i (Na w3 m)) ((aJd w4).same ((aM _ _).block _ s7)) o7 (λe=>by have:=c.lt e;omega) o7 (pR _ _ _)
def aZj(f:Sd w.heap.size w w2)(a:Sd w2.heap.size w2 w3)(b:Sd w3.heap.size w3 w4)(c:Sd (w3.alloc (.map #[] 0)).heap.size (w3.alloc (.map #[] 0)) w4)(n:w2.cell? ⟨tb,0,B_⟩=A_ (J (A_ ⟨cb,0,B_⟩) rs.length ct))(o:jW w2 cb 0 rs)(m:tb<w2.heap.size/\cb<w2.heap.size)(i:dU w3 w2.heap.size st dy p p)(g:Bk w4 (w3.heap.size+1+2) 0 (aU.none_ (w3.heap.size+1))):
  CF w rs st dy p ti mo (Y (.tuple #[E (A_ ⟨w4.heap.size,0,B_⟩),.nilIface])) (w4.alloc (R #[E (A_ ⟨tb,0,B_⟩),E (A_ ⟨w2.heap.size,0,B_⟩),E (A_ ⟨w3.heap.size+1+2,0,B_⟩),J B_ 0 0,.map (A_ w3.heap.size),U G 1,U G 0,U G ti,U G mo,U G 0,U G 0] 151)):=by
 have q:=a.size;have r:=b.size
 have d:∀{j:Nat},(aU.none_ (w3.heap.size+1)).foot (w3.heap.size+1+2) j->w3.heap.size+1<=j:=fun {j} l=>by
  have e:(w3.alloc (.map #[] 0)).heap.size=w3.heap.size+1:=by simp
  have:=Na (w3.alloc (.map #[] 0)) (k:=j) (by rw[e];exact l);omega
 exact aFg f a b (aM _ _) n o m i g bD.start (λj l=>by have:=d l;omega) ((aJd w3).same (((aM w4 _).block _ (by have:=c.size;simp at this;omega)).trans (c.block _ s7))) o7 (λe=>by have:=d e;omega) o7 (RU _ _)
def aR2(a off cap:Nat)(rs:List (Int×Int))(st dy p ti mo:Int)(w:C_)(h:jW w a off rs)(H:EU rs)(D:0<rs.length)(C:rs.length<=60)(f:eZ rs=(0,-1))(E:tY st dy p=G_)(a3:1<=ti/\ti<=1000000)(a2:0<=mo/\mo<=10):
  Sj prog 72 #[.agg #[J (A_ ⟨a,off,B_⟩) rs.length cap,U G st,U G dy,U G p,U G ti,U G mo]] w λe w'=>CF w rs st dy p ti mo e w':=by
 have a1:=@run_makeMap prog;have O:=ah h;have Q:=ah H;have P:=ah f;have N:=ah E;clear h H f E;go_enter func72,ntmps72;go_upto_region 1 with fail;have I:=RU w (R #[J (A_ ⟨a,off,B_⟩) rs.length cap,U G st,U G dy,U G p,U G ti,U G mo] 50);have g:=aM w (R #[J (A_ ⟨a,off,B_⟩) rs.length cap,U G st,U G dy,U G p,U G ti,U G mo] 50);generalize w.alloc (R #[J (A_ ⟨a,off,B_⟩) rs.length cap,U G st,U G dy,U G p,U G ti,U G mo] 50)=w1 at I g⊢;have T:w1.cell? ⟨w.heap.size,0,B_⟩=A_ (J (A_ ⟨a,off,B_⟩) rs.length cap):=aj (j:=0) I rfl;have S:Hid _:=I;have M:=ah g;clear I g;go_wp2_with fail;refine(aFf a off cap rs w1 (O.out.below M.out au) Q.out D C).mono ?_;rintro e w2 ⟨t,a0,rfl,hN,i⟩;rcases hN with⟨_,rfl,tb,rfl,cb,ct,m,n⟩|⟨h0,_⟩
 ·have b:=aL S.out i au;have o:=ah (aJ M.out i);have x:=ah m;have y:=ah n
  have B:cb<w2.heap.size:=by
   have:=(n.row D).1;exact SN w2 _ this
  have F:tb<w2.heap.size:=SN w2 _ m;have v:Hid (tb<w2.heap.size/\cb<w2.heap.size):=⟨F,B⟩;have V:w2.cell? ⟨w.heap.size,1,B_⟩=A_ (U G st):=aj (j:=1) b rfl;have W:w2.cell? ⟨w.heap.size,2,B_⟩=A_ (U G dy):=aj (j:=2) b rfl;have X:w2.cell? ⟨w.heap.size,3,B_⟩=A_ (U G p):=aj (j:=3) b rfl;have L:Hid _:=b;clear i b m n T B F;go_wp2_with fail;refine(Rb st dy p w2 N.out).mono ?_;rintro e w3 ⟨rfl,k,A⟩;have c:=aL L.out k au;have q:=ah k;have u:=ah A;have Y:w3.cell? ⟨w.heap.size,4,B_⟩=A_ (U G ti):=aj (j:=4) c rfl;have Z:w3.cell? ⟨w.heap.size,5,B_⟩=A_ (U G mo):=aj (j:=5) c rfl;have K:Hid (∀w',Sd w3.heap.size w3 w'->w'.cell? ⟨w.heap.size,4,B_⟩=A_ (U G ti)/\w'.cell? ⟨w.heap.size,5,B_⟩=A_ (U G mo)/\Sd w3.heap.size w3 w'):=λw' g=>⟨aj (j:=4) (aL c g au) rfl,aj (j:=5) (aL c g au) rfl,g⟩
  clear k A c V W X;go_upto_region 9 with fail;clear Y Z
  go_region_held3 (λw'=>w'.cell? ⟨w.heap.size,4,B_⟩=A_ (U G ti)/\w'.cell? ⟨w.heap.size,5,B_⟩=A_ (U G mo)/\Sd w3.heap.size w3 w')
   ((refine K.out _ ?_;(repeat' first|assumption|exact d.out|exact RS _ _|refine Um ?_|refine TR ?_ ?_ _|exact au|(simp;done)|(simp;omega)|(have h9:=d.out.size;simp at h9⊢;omega))))
   ((go_at_call 97;refine(aGl _).mono ?_;rintro e w4 ⟨rfl,z,l⟩;have s:Hid _:=z;have r:Hid _:=l;have d:Hid (Sd w3.heap.size w3 w4):=(aJ (by(repeat' first|assumption|exact RS _ _|exact au|refine Um ?_|refine TR ?_ ?_ _|(simp;done)|(simp;omega))) l);clear z l))
  all_goals go_wp2_with fail
  all_goals go_ret2
  all_goals first|exact aZi o.out q.out d.out x.out y.out v.out u.out s.out|exact aZj o.out q.out d.out (aJ (RS _ _).drew r.out) x.out y.out v.out u.out (aMy s7 s.out)
 ·exact absurd (by rw[P.out]) h0
section
open Go.Extern.Stop Go.Stop Go.Extern
def vP(t:J_)(w:C_):(ReflectliteValue.unpack (.iface 201 (E (A_ t)))).run prog w
  = .ok (.agg #[E (A_ ⟨7,201,B_⟩),E (A_ ⟨w.heap.size,0,B_⟩),.int .u64 150]) (w.alloc (R #[E (A_ t)] 201)):=k7
def tP(a:J_)(w:C_):(ReflectliteValue.methodAny (ReflectliteValue.valueError "reflectlite.Value.Type" 0) (λt _ _ _=>ReflectliteType.toType t) #[.agg #[E (A_ ⟨7,201,B_⟩),E (A_ a),.int .u64 150]]).run prog w
  = .ok (.iface 284 (.agg #[E (A_ ⟨7,201,B_⟩)])) w:=k7
def aX8(h:D_)(w:C_):(Go.method 465 284 (.agg #[h]) "Kind").run prog w=.ok (282,h) w:=k7
def kP(w:C_):((ReflectliteType.abiMethod λt=>(λa:Nat=>Value.int IntKind.u8 (a:Int)) <$> Rtype.kind t) #[E (A_ ⟨7,201,B_⟩)]).run prog w=.ok (.int .u8 22) w:=k7
def kE(w:C_):((ReflectliteType.abiMethod λt=>(λa:Nat=>Value.int IntKind.u8 (a:Int)) <$> Rtype.kind t) #[E (A_ ⟨7,30,B_⟩)]).run prog w=.ok (.int .u8 2) w:=k7
def aGh(a:J_)(w:C_):(ReflectliteValue.parts (.agg #[E (A_ ⟨7,201,B_⟩),E (A_ a),.int .u64 150])).run prog w=.ok (A_ (201,a,150)) w:=k7
def aWi(a p:J_)(W:C_)(b:W.cell? a=A_ (E (A_ p))):
  (ReflectliteValue.method (ReflectliteValue.valueError "reflectlite.Value.IsNil" 0) ReflectliteValue.isNil #[.agg #[E (A_ ⟨7,201,B_⟩),E (A_ a),.int .u64 150]]).run prog W=.ok (.bool E_) W:=by
 rw[Lib.rl_method];simp only[Sem.run_bind,aGh,Zz];simp[ReflectliteValue.isNil,loadVar,isAgg,underlying,underlying201,b,Zz]
def aX6(h:D_)(w:C_):(Go.method 465 284 (.agg #[h]) "Elem").run prog w=.ok (298,.agg #[h]) w:=k7
def aX7(h:D_)(w:C_):(Go.method 465 284 (.agg #[h]) "Implements").run prog w=.ok (299,.agg #[h]) w:=k7
def aEv(h:D_)(w:C_):(Go.method 465 284 (.agg #[h]) "AssignableTo").run prog w=.ok (296,.agg #[h]) w:=k7
def aSm(w:C_):(ReflectliteType.method ReflectliteType.elem #[.agg #[E (A_ ⟨7,201,B_⟩)]]).run prog w=.ok (.iface 284 (.agg #[E (A_ ⟨7,30,B_⟩)])) w:=k7
def aVp(w:C_):(ReflectliteType.relation "Implements" ReflectliteType.implements_ #[.agg #[E (A_ ⟨7,30,B_⟩)],.iface 284 (.agg #[E (A_ ⟨7,24,B_⟩)])]).run prog w=.ok (.bool G_) w:=k7
def aJp(v:D_)(w:C_):(ReflectliteType.typeOf #[.iface 30 v]).run prog w=.ok (.iface 284 (.agg #[E (A_ ⟨7,30,B_⟩)])) w:=k7
def QE(w:C_):(ReflectliteType.relation "AssignableTo" ReflectliteType.assignableTo #[.agg #[E (A_ ⟨7,30,B_⟩)],.iface 284 (.agg #[E (A_ ⟨7,30,B_⟩)])]).run prog w=.ok (.bool G_) w:=k7
def aJ1(n:Int)(w:C_):(ReflectliteValue.unpack (.iface 30 (U G n))).run prog w
  = .ok (.agg #[E (A_ ⟨7,30,B_⟩),E (A_ ⟨w.heap.size,0,B_⟩),.int .u64 130]) (w.alloc (R #[U G n] 30)):=k7
def aSl(w:C_):(Rtype.elem? 201).run prog w=.ok (A_ 30) w:=k7
def MP(p:J_)(w:C_):(ReflectliteValue.mk 30 p ReflectliteValue.flagAddr).run prog w=.ok (.agg #[E (A_ ⟨7,30,B_⟩),E (A_ p),.int .u64 386]) w:=k7
def aBi(a p:J_)(W:C_)(b:W.cell? a=A_ (E (A_ p))):
  (ReflectliteValue.method (ReflectliteValue.valueError "reflectlite.Value.Elem" 0) ReflectliteValue.elem #[.agg #[E (A_ ⟨7,201,B_⟩),E (A_ a),.int .u64 150]]).run prog W
   = .ok (.agg #[E (A_ ⟨7,30,B_⟩),E (A_ p),.int .u64 386]) W:=by
 rw[Lib.rl_method];simp only[Sem.run_bind,aGh,Zz];simp[ReflectliteValue.elem,loadVar,isAgg,underlying,underlying201,b,Zz,aSl,MP]
def bBr(a:J_)(w:C_):(ReflectliteValue.parts (.agg #[E (A_ ⟨7,30,B_⟩),E (A_ a),.int .u64 386])).run prog w=.ok (A_ (30,a,386)) w:=k7
def bBq(a:J_)(w:C_):(ReflectliteValue.parts (.agg #[E (A_ ⟨7,30,B_⟩),E (A_ a),.int .u64 130])).run prog w=.ok (A_ (30,a,130)) w:=k7
def aPs(w:C_):(Rtype.directlyAssignable 30 30).run prog w=.ok G_ w:=k7
def bE7{b:Array D_->Sort _}(v x:D_)(f:(v x:D_)->b #[v,x])(g:(a:Array D_)->b a):
  ReflectliteValue.set.match_3 b #[v,x] f g=f v x:=rfl
def aH4(ta b:J_)(n:Int)(old:D_)(W:C_)(a:W.cell? b=A_ (U G n))(d:W.cell? ta=A_ old)(c:W.frozen? ta=E_):
  (ReflectliteValue.set #[.agg #[E (A_ ⟨7,30,B_⟩),E (A_ ta),.int .u64 386],.agg #[E (A_ ⟨7,30,B_⟩),E (A_ b),.int .u64 130]]).run prog W
   = .ok (.tuple #[]) (W.setCell ta (U G n)):=by
 delta ReflectliteValue.set
 rw[bE7];simp only[Sem.run_bind,bBr,bBq,Zz];simp[ReflectliteValue.flagAddr,loadVar,isAgg,underlying,underlying30,a,Zz,aPs,storeVar,Value.cells,storeCells,Addr.add];rw[run_store prog W ta _ _ r7];simp[d,c]
def jD(w:C_):Prop:=w.cell? ⟨2,0,B_⟩=A_ (.iface 284 (.agg #[E (A_ ⟨7,24,B_⟩)]))
def jD.lt(a:jD w):2<w.heap.size:=by
 rcases Us 2 w.heap.size with h|h
 ·exact h
 ·simp[jD,SS,Array.getElem?_eq_none h]at a
def jD.below(a:jD w)(b:Sd w.heap.size w w'):jD w':=(b.cell (p:=⟨2,0,B_⟩) a.lt).trans a
def bHu(v:D_)(w:C_):(ReflectliteType.typeOf #[.iface 180 v]).run prog w=.ok (.iface 284 (.agg #[E (A_ ⟨7,180,B_⟩)])) w:=k7
def aL0(w:C_):(ReflectliteType.relation "AssignableTo" ReflectliteType.assignableTo #[.agg #[E (A_ ⟨7,180,B_⟩)],.iface 284 (.agg #[E (A_ ⟨7,30,B_⟩)])]).run prog w=.ok (.bool E_) w:=k7
def aZs(v:D_)(a:RZ)(w:C_):(Instr.typeAssert (.iface 180 v) a 289 G_).run prog w=.ok (.tuple #[.nilIface,.bool E_]) w:=run_typeAssert_lacksB underlying289 k7 k7 v a w
def bH6(v:D_)(a:RZ)(w:C_):(Instr.typeAssert (.iface 180 v) a 292 G_).run prog w=.ok (.tuple #[.iface 180 v,.bool G_]) w:=run_typeAssert_hasB underlying292 k7 v a w
def qL(o:Obj){a:J_}(h:a.block<w.heap.size):(w.alloc o).cell? a=w.cell? a:=World.cell?_alloc_lt _ _ a h
def Fw(o:Obj){a:J_}(h:a.block<w.heap.size):(w.alloc o).frozen? a=w.frozen? a:=World.frozen?_alloc_old _ _ a (Nat.ne_of_lt h)
def nS{a:J_}(h:w.cell? a=A_ v):a.block<w.heap.size:=by
 rcases Us a.block w.heap.size with b|b
 ·exact b
 ·simp[SS,Array.getElem?_eq_none b]at h
def aLw(n:Int)(t a:J_)(old:D_)(w:C_)(f:w.cell? a=A_ (E (A_ t)))(b:w.cell? t=A_ old)(e:w.frozen? t=E_):
  Sj prog 183 #[.iface 30 (U G n),.iface 201 (E (A_ t)),.agg #[E (A_ ⟨7,201,B_⟩),E (A_ a),.int .u64 150],.iface 284 (.agg #[E (A_ ⟨7,30,B_⟩)])] w λev w'=>ev=Y (.bool G_)
   /\w'=((w.alloc (R #[E (A_ ⟨7,201,B_⟩),E (A_ a),.int .u64 150] 249)).alloc (R #[U G n] 30)).setCell t (U G n):=by
 have d:=nS f;have c:=nS b;have o:=@run_callFunc_extern prog 180 _ (λargs=>ReflectliteValue.unpack (args.getD 0 (.tuple #[]))) func180 k7 k7 k7 k7;have g:=@run_callFunc_extern prog 215 _ ReflectliteType.typeOf func215 k7 k7 k7 k7;have k:=@run_callFunc_extern prog 296 _ (ReflectliteType.relation "AssignableTo" ReflectliteType.assignableTo) func296 k7 k7 k7 k7;have i:=@run_callFunc_extern prog 216 _ (ReflectliteValue.method (ReflectliteValue.valueError "reflectlite.Value.Elem" 0) ReflectliteValue.elem) func216 k7 k7 k7 k7;have j:=@run_callFunc_extern prog 217 _ ReflectliteValue.set func217 k7 k7 k7 k7;have q:=aJp;have p:=aEv;have l:=QE;have r:=aJ1;have m:=aBi a t (w.alloc (R #[E (A_ ⟨7,201,B_⟩),E (A_ a),.int .u64 150] 249)) (by rw[qL _ d];exact f)
 have st:=aH4 t ⟨w.heap.size+1,0,B_⟩ n old ((w.alloc (R #[E (A_ ⟨7,201,B_⟩),E (A_ a),.int .u64 150] 249)).alloc (R #[U G n] 30))
  (by rw[UM _ _ _ _ s7];rfl)
  (by rw[qL _ (by simp;omega),qL _ c];exact b)
  (by rw[Fw _ (by simp;omega),Fw _ c];exact e)
 go_enter func183,ntmps183;go_wp2;refine wp_loop_rounds 1 ?_;rw[rounds_succ];go_wp2;go_ret;exact⟨rfl,rfl⟩
def aLv(n:Int)(b o:Nat)(t a:J_)(old:D_)(w:C_)(hn:w.cell? ⟨b,o,B_⟩=A_ (U G n))(i:w.cell? a=A_ (E (A_ t)))(c:w.cell? t=A_ old)(g:w.frozen? t=E_):
  Sj prog 183 #[.iface 180 (E (A_ ⟨b,o,B_⟩)),.iface 201 (E (A_ t)),.agg #[E (A_ ⟨7,201,B_⟩),E (A_ a),.int .u64 150],.iface 284 (.agg #[E (A_ ⟨7,30,B_⟩)])] w λev w'=>ev=Y (.bool G_)
   /\w'=((w.alloc (R #[E (A_ ⟨7,201,B_⟩),E (A_ a),.int .u64 150] 249)).alloc (R #[U G n] 30)).setCell t (U G n):=by
 have e:=nS i;have d:=nS c;have f:=nS hn;have u:=@run_callFunc_extern prog 180 _ (λargs=>ReflectliteValue.unpack (args.getD 0 (.tuple #[]))) func180 k7 k7 k7 k7;have j:=@run_callFunc_extern prog 215 _ ReflectliteType.typeOf func215 k7 k7 k7 k7;have m:=@run_callFunc_extern prog 296 _ (ReflectliteType.relation "AssignableTo" ReflectliteType.assignableTo) func296 k7 k7 k7 k7;have k:=@run_callFunc_extern prog 216 _ (ReflectliteValue.method (ReflectliteValue.valueError "reflectlite.Value.Elem" 0) ReflectliteValue.elem) func216 k7 k7 k7 k7;have l:=@run_callFunc_extern prog 217 _ ReflectliteValue.set func217 k7 k7 k7 k7;have z:=aJp;have y:=bHu;have v:=aEv;have r:=QE;have q:=aL0;have x:=aZs;have A:=bH6;have B:=aJ1;have p:(w.alloc (R #[E (A_ ⟨7,201,B_⟩),E (A_ a),.int .u64 150] 249)).cell? ⟨b,o,B_⟩=A_ (U G n):=by rw[qL _ f];exact hn
 have s:=aBi a t (w.alloc (R #[E (A_ ⟨7,201,B_⟩),E (A_ a),.int .u64 150] 249)) (by rw[qL _ e];exact i)
 have st:=aH4 t ⟨w.heap.size+1,0,B_⟩ n old ((w.alloc (R #[E (A_ ⟨7,201,B_⟩),E (A_ a),.int .u64 150] 249)).alloc (R #[U G n] 30))
  (by rw[UM _ _ _ _ s7];rfl)
  (by rw[qL _ (by simp;omega),qL _ d];exact c)
  (by rw[Fw _ (by simp;omega),Fw _ d];exact g)
 go_enter func183,ntmps183;go_wp2;refine wp_loop_rounds 2 ?_;rw[rounds_succ];go_wp2;rw[rounds_succ];go_wp2;go_ret;exact⟨rfl,rfl⟩
def PO(b:RZ)(c:D_)(t:J_)(w:C_)(d:jD w)(Q:Ending->C_->Prop)(h:∀W:C_,Sd w.heap.size w W->W.cell? ⟨w.heap.size,0,B_⟩=A_ (E (A_ t))->
   Sj prog 183 #[.iface b c,.iface 201 (E (A_ t)),.agg #[E (A_ ⟨7,201,B_⟩),E (A_ ⟨w.heap.size,0,B_⟩),.int .u64 150],.iface 284 (.agg #[E (A_ ⟨7,30,B_⟩)])] W
    λe w'=>(∃r,e=Y (.bool r))/\Q e w'):
  Sj prog 133 #[.iface b c,.iface 201 (E (A_ t))] w Q:=by
 have a:=d.lt;have p:=@run_callFunc_extern prog 180 _ (λargs=>ReflectliteValue.unpack (args.getD 0 (.tuple #[]))) func180 k7 k7 k7 k7;have q:=@run_callFunc_extern prog 181 _ (ReflectliteValue.methodAny (ReflectliteValue.valueError "reflectlite.Value.Type" 0) (λt _ _ _=>ReflectliteType.toType t)) func181 k7 k7 k7 k7;have s:=@run_callFunc_extern prog 182 _ (ReflectliteValue.method (ReflectliteValue.valueError "reflectlite.Value.IsNil" 0) ReflectliteValue.isNil) func182 k7 k7 k7 k7;have g:=@run_callFunc_extern prog 282 _ (ReflectliteType.abiMethod λt=>do pure (.int .u8 (←Rtype.kind t))) func282 k7 k7 k7 k7;have i:=@run_callFunc_extern prog 298 _ (ReflectliteType.method ReflectliteType.elem) func298 k7 k7 k7 k7;have j:=@run_callFunc_extern prog 299 _ (ReflectliteType.relation "Implements" ReflectliteType.implements_) func299 k7 k7 k7 k7;have n:=vP;have o:=tP;have x:=aX8;have u:=aX6;have v:=aX7;have k27:=kP;have k25:=kE;have f:=aSm;have m:=aVp;have y:=aWi ⟨w.heap.size,0,B_⟩ t ((w.alloc (R #[E (A_ t)] 201)).alloc (R #[E (A_ ⟨7,201,B_⟩),E (A_ ⟨w.heap.size,0,B_⟩),.int .u64 150] 249)) s7
 have k:((w.alloc (R #[E (A_ t)] 201)).alloc (R #[E (A_ ⟨7,201,B_⟩),E (A_ ⟨w.heap.size,0,B_⟩),.int .u64 150] 249)).cell? ⟨2,0,B_⟩=A_ (.iface 284 (.agg #[E (A_ ⟨7,24,B_⟩)])):=by
  rw[qL _ (by simp<;>omega),qL _ a];exact d
 have H:Hid (∀W:C_,Sd w.heap.size w W->W.cell? ⟨w.heap.size,0,B_⟩=A_ (E (A_ t))->
   Sj prog 183 #[.iface b c,.iface 201 (E (A_ t)),.agg #[E (A_ ⟨7,201,B_⟩),E (A_ ⟨w.heap.size,0,B_⟩),.int .u64 150],.iface 284 (.agg #[E (A_ ⟨7,30,B_⟩)])] W
    λe w'=>(∃r,e=Y (.bool r))/\Q e w'):=h
 clear h;go_enter func133,ntmps133;go_wp2_with fail;refine(H.out _ ?_ ?_).mono ?_
 ·exact((RS _ _).alloc au _).alloc s7 _
 ·rw[qL _ s7];exact UM _ _ _ _ rfl
 ·rintro e w' ⟨⟨r,rfl⟩,l⟩;go_wp2_with fail;exact l
def AJ(w:C_)(err:D_)(n k:Int):Prop:=
 (err=.nilIface/\n=0/\k=-1)\/(err=.iface 30 (U G n)/\k=-1)
  \/(∃b o:Nat,err=.iface 180 (E (A_ ⟨b,o,B_⟩))/\w.cell? ⟨b,o,B_⟩=A_ (U G n)/\w.cell? ⟨b,o+1,B_⟩=A_ (U G k))
def Qn{t:J_}{n:Int}{o1 o2:Obj}{old:D_}(d:Sd w.heap.size w W)(e:W.cell? t=A_ old)(f:w'=((W.alloc o1).alloc o2).setCell t (U G n))(B:Nat)(a:B<=t.block)(b:B<=w.heap.size):
  w'.cell? t=A_ (U G n)/\Sd B w w':=by
 have c:=nS e;have g:=d.size;subst f;refine⟨World.cell?_setCell_same' _ _ _ ?_,?_⟩
 ·rw[qL _ (by simp;omega),qL _ c,e];rfl
 ·exact(((d.mono b).alloc o7 _).alloc (by simp;omega) _).setCell a _
def bHh(w:C_):Sj prog 98 #[.nilIface] w λe w'=>e=Y (U G 0)/\w'=w:=by
 go_enter func98,ntmps98;go_wp2;go_ret;exact⟨rfl,rfl⟩
def aKs(n:Int)(t:J_)(w:C_)(f:jD w)(a:w.cell? t=A_ (U G 0))(d:w.frozen? t=E_):
  Sj prog 133 #[.iface 30 (U G n),.iface 201 (E (A_ t))] w λe w'=>e=Y (.bool G_)/\w'.cell? t=A_ (U G n)/\Sd t.block w w':=
 PO _ _ t w f _ λW b c=>(aLw n t _ (U G 0) W c ((b.cell (nS a)).trans a) ((b.frozen (nS a)).trans d)).mono λ_ _ ⟨he,hw⟩=>
  have h:=Qn b ((b.cell (nS a)).trans a) hw t.block au (Nat.le_of_lt (nS a))
  ⟨⟨_,he⟩,he,h.1,h.2⟩
def aKr(n:Int)(b o:Nat)(t:J_)(w:C_)(i:jD w)(hn:w.cell? ⟨b,o,B_⟩=A_ (U G n))(c:w.cell? t=A_ (U G 0))(g:w.frozen? t=E_):
  Sj prog 133 #[.iface 180 (E (A_ ⟨b,o,B_⟩)),.iface 201 (E (A_ t))] w λe w'=>e=Y (.bool G_)/\w'.cell? t=A_ (U G n)/\Sd t.block w w':=
 PO _ _ t w i _ λW d f=>(aLv n b o t _ (U G 0) W ((d.cell (p:=⟨b,o,B_⟩) (nS (a:=⟨b,o,B_⟩) hn)).trans hn) f ((d.cell (nS c)).trans c) ((d.frozen (nS c)).trans g)).mono λ_ _ ⟨he,hw⟩=>
  have h:=Qn d ((d.cell (nS c)).trans c) hw t.block au (Nat.le_of_lt (nS c))
  ⟨⟨_,he⟩,he,h.1,h.2⟩
def bHg(n:Int)(w:C_)(c:jD w):Sj prog 98 #[.iface 30 (U G n)] w λe w'=>e=Y (U G n)/\Sd w.heap.size w w':=by
 have a:jD (w.alloc (R #[U G 0] 30)):=c.below ((RS _ _).alloc au _);go_enter func98,ntmps98;go_wp2_with fail;refine(aKs n ⟨w.heap.size,0,B_⟩ _ a s7 s7).mono ?_;rintro e w1 ⟨rfl,d,b⟩;go_wp2;go_ret;exact⟨rfl,((RS _ _).alloc au _).trans b⟩
def bHf(n:Int)(b o:Nat)(w:C_)(g:jD w)(hn:w.cell? ⟨b,o,B_⟩=A_ (U G n)):Sj prog 98 #[.iface 180 (E (A_ ⟨b,o,B_⟩))] w λe w'=>e=Y (U G n)/\Sd w.heap.size w w':=by
 have c:jD (w.alloc (R #[U G 0] 30)):=g.below ((RS _ _).alloc au _);have d:Hid ((w.alloc (R #[U G 0] 30)).cell? ⟨b,o,B_⟩=A_ (U G n)):=(qL (a:=⟨b,o,B_⟩) _ (nS (a:=⟨b,o,B_⟩) hn)).trans hn;go_enter func98,ntmps98;go_wp2_with fail;refine(aKr n b o ⟨w.heap.size,0,B_⟩ _ c d.out s7 s7).mono ?_;rintro e w1 ⟨rfl,i,f⟩;go_wp2;go_ret;exact⟨rfl,((RS _ _).alloc au _).trans f⟩
def aI9(a:D_)(n k:Int)(w:C_)(c:jD w)(h:AJ w a n k):Sj prog 98 #[a] w λe w'=>e=Y (U G n)/\Sd w.heap.size w w':=by
 rcases h with⟨rfl,rfl,rfl⟩|⟨rfl,rfl⟩|⟨b,o,rfl,h1,h2⟩
 ·exact(bHh w).mono λ_ _ ⟨he,hw⟩=>⟨he,by subst hw;exact RS _ _⟩
 ·exact bHg n w c
 ·exact bHf n b o w c h1
end
def aNm{a:D_}(h:((eZ rs).2=-1/\a=.iface 30 (U G (eZ rs).1))\/∃b:Nat,a=.iface 180 (E (A_ ⟨b,0,B_⟩))/\w.cell? ⟨b,0,B_⟩=A_ (U G (eZ rs).1)/\w.cell? ⟨b,1,B_⟩=A_ (U G (eZ rs).2)):
  AJ w a (eZ rs).1 (eZ rs).2:=by
 rcases h with⟨h1,h2⟩|⟨b,h1,h2,h3⟩
 ·exact RN (RP ⟨h2,h1⟩)
 ·exact RN (RN ⟨b,0,h1,h2,h3⟩)
def Ap(ti mo:Int):Bool:=decide (1<=ti)&& decide (ti<=1000000)&& (decide (0<=mo)&& decide (mo<=10))
def newE(rs:List (Int×Int))(st dy p ti mo:Int):Int×Int:=if(eZ rs).1≠0 then eZ rs else if tY st dy p=G_/\Ap ti mo=G_ then(0,-1)else(2,-1)
def CG(w:C_)(rs:List (Int×Int))(st dy p ti mo:Int)(e:Ending)(w':C_):Prop:=∃err,e=Y (.tuple #[E B_,err])/\AJ w' err (newE rs st dy p ti mo).1 (newE rs st dy p ti mo).2/\Sd w.heap.size w w'
def wV{a:D_}(h:AJ w' a (newE rs st dy p ti mo).1 (newE rs st dy p ti mo).2)(b:Sd w.heap.size w w'):CG w rs st dy p ti mo (Y (.tuple #[E B_,a])) w':=⟨a,rfl,h,b⟩
def aR1(a:Option J_)(cap:Nat)(st dy p ti mo:Int)(w:C_):
  Sj prog 72 #[.agg #[J a 0 cap,U G st,U G dy,U G p,U G ti,U G mo]] w λe w'=>CG w [] st dy p ti mo e w':=by
 go_enter func72,ntmps72;go_upto_region 1 with fail;have c:=RU w (R #[J a 0 cap,U G st,U G dy,U G p,U G ti,U G mo] 50);have b:=aM w (R #[J a 0 cap,U G st,U G dy,U G p,U G ti,U G mo] 50);generalize w.alloc (R #[J a 0 cap,U G st,U G dy,U G p,U G ti,U G mo] 50)=w1 at c b⊢;have g:w1.cell? ⟨w.heap.size,0,B_⟩=A_ (J a 0 cap):=aj (j:=0) c rfl;have d:=ah b;clear c b;go_wp2_with fail;refine(aZk a cap w1).mono ?_;rintro e w2 ⟨rfl,f⟩;subst f;go_wp2_with fail;go_ret2;exact wV (RN (RP ⟨rfl,rfl⟩)) d.out
def aR0(a off cap:Nat)(rs:List (Int×Int))(st dy p ti mo:Int)(w:C_)(h:jW w a off rs)(s:EU rs)(C:0<rs.length)(o:rs.length<=60)(r:(newE rs st dy p ti mo).1≠0):
  Sj prog 72 #[.agg #[J (A_ ⟨a,off,B_⟩) rs.length cap,U G st,U G dy,U G p,U G ti,U G mo]] w λe w'=>CG w rs st dy p ti mo e w':=by
 have N:=ah h;have O:=ah s;have x:=ah r;clear h s r;go_enter func72,ntmps72;go_upto_region 1 with fail;have v:=RU w (R #[J (A_ ⟨a,off,B_⟩) rs.length cap,U G st,U G dy,U G p,U G ti,U G mo] 50);have A:=aM w (R #[J (A_ ⟨a,off,B_⟩) rs.length cap,U G st,U G dy,U G p,U G ti,U G mo] 50);generalize w.alloc (R #[J (A_ ⟨a,off,B_⟩) rs.length cap,U G st,U G dy,U G p,U G ti,U G mo] 50)=w1 at v A⊢;have Q:w1.cell? ⟨w.heap.size,0,B_⟩=A_ (J (A_ ⟨a,off,B_⟩) rs.length cap):=aj (j:=0) v rfl;have P:Hid _:=v;have F:=ah A;clear v A;go_wp2_with fail;refine(aFf a off cap rs w1 (N.out.below F.out au) O.out C o).mono ?_;rintro e w2 ⟨t,z,rfl,W,g⟩;have k:=ah (aJ F.out g);rcases W with⟨u,rfl,tb,rfl,cb,ct,D,E⟩|⟨h0,rfl,B⟩
 ·have i:=aL P.out g au;have S:w2.cell? ⟨w.heap.size,1,B_⟩=A_ (U G st):=aj (j:=1) i rfl;have T:w2.cell? ⟨w.heap.size,2,B_⟩=A_ (U G dy):=aj (j:=2) i rfl;have V:w2.cell? ⟨w.heap.size,3,B_⟩=A_ (U G p):=aj (j:=3) i rfl;have y:Hid _:=i
  have HE:Hid (newE rs st dy p ti mo=if tY st dy p=G_/\Ap ti mo=G_ then(0,-1)else(2,-1)):=by
   show _=_;unfold newE;rw[RD (by rw[u];decide)]
  clear g i D E Q u;go_wp2_with fail;cases hok:tY st dy p with
  |false=>
   have d:Hid (newE rs st dy p ti mo=(2,-1)):=by show _=_;rw[HE.out,RD (by rw[hok];rintro⟨e,_⟩;cases e)]
   refine(aM6 st dy p w2 hok).mono ?_;rintro e w3 ⟨rfl,f⟩;have c:=ah (aJ k.out f);clear f hok;go_wp2_with fail;go_ret2;exact wV (by rw[d.out];exact RN (RP ⟨rfl,rfl⟩)) c.out
  |true=>
   have H:Hid (Ap ti mo=E_):=by
    show _=_;cases u:Ap ti mo with
    |false=>rfl
    |true=>exact absurd (by rw[HE.out,RF ⟨hok,u⟩]) x.out
   have d:Hid (newE rs st dy p ti mo=(2,-1)):=by show _=_;rw[HE.out,RD (by rw[H.out];rintro⟨_,e⟩;cases e)]
   refine(Rb st dy p w2 hok).mono ?_;rintro e w3 ⟨rfl,f,_⟩;have l:=aL y.out f au;have c:=ah (aJ k.out f);have X:w3.cell? ⟨w.heap.size,4,B_⟩=A_ (U G ti):=aj (j:=4) l rfl;have Y:w3.cell? ⟨w.heap.size,5,B_⟩=A_ (U G mo):=aj (j:=5) l rfl;clear f l S T V hok
   have n:ti<1\/1000000<ti\/mo<0\/10<mo:=by
    have h:=H.out;unfold Ap at h
    by_cases I:ti<1
    ·exact RP I
    by_cases K:1000000<ti
    ·exact RN (RP K)
    by_cases L:mo<0
    ·exact RN (RN (RP L))
    by_cases M:10<mo
    ·exact RN (RN (RN M))
    rw[RI (show(1:Int)<=ti by omega),RI (show ti<=1000000 by omega),RI (show(0:Int)<=mo by omega),RI (show mo<=10 by omega)]at h;cases h
   by_cases I:ti<1
   ·go_wp2_with fail;go_ret2;exact wV (by rw[d.out];exact RN (RP ⟨rfl,rfl⟩)) c.out
   by_cases K:ti>1000000
   ·go_wp2_with fail;go_ret2;exact wV (by rw[d.out];exact RN (RP ⟨rfl,rfl⟩)) c.out
   by_cases L:mo<0
   ·go_wp2_with fail;go_ret2;exact wV (by rw[d.out];exact RN (RP ⟨rfl,rfl⟩)) c.out
   have M:mo>10:=o7;clear n;go_wp2_with fail;go_ret2;exact wV (by rw[d.out];exact RN (RP ⟨rfl,rfl⟩)) c.out
 ·have HE:Hid (newE rs st dy p ti mo=eZ rs):=by
   show _=_;unfold newE;rw[RF h0]
  have m:=ah (aNm B)
  have q:z≠.nilIface:=by
   rcases B with⟨_,e⟩|⟨b,e,_⟩
   ·rw[e];intro h;cases h
   ·rw[e];intro h;cases h
  rcases B with⟨_,rfl⟩|⟨b,rfl,_⟩
  ·clear g h0 q;go_wp2_with fail;go_ret2;exact wV (by rw[HE.out];exact m.out) k.out
  ·clear g h0 q;go_wp2_with fail;go_ret2;exact wV (by rw[HE.out];exact m.out) k.out
def dN(z:Int):Prop:=-9223372036854775808<=z/\z<=9223372036854775807
def Bu(f:dx):Prop:=dN f.iC/\dN f.iK/\dN f.price/\dN f.ak
def yK(o:Ord):Prop:=dN o.id/\dN o.kind/\dN o.price/\dN o.ak
def lQ(l:List Int):List UInt8:=Yt (l.map Wi) [32]
def jI(f:dx):List UInt8:=lQ [f.iC,f.iK,f.price,f.ak]
def qz(o:Ord):List UInt8:=lQ [o.id,o.kind,o.price,o.ak]
def yY(t:List UInt8)(fs:List dx):List UInt8:=Yt (t::fs.map jI) [44,32]
def yC(l:List Ord):List UInt8:=Yt (l.map qz) [44,32]
def tJ(n:Int):List UInt8:=[101,114,114,111,114,32]++Wi n
def lN(p:Int):List UInt8:=
 if p=1 then [112,114,101,111,112,101,110]else if p=2 then [111,112,101,110,105,110,103]else if p=3 then [116,114,97,100,105,110,103]
 else if p=4 then [118,111,108,97,116,105,108,105,116,121]else if p=5 then [99,108,111,115,105,110,103]else if p=6 then [104,97,108,116]else [101,110,100,101,100]
def aC8:List UInt8:=[97,117,99,116,105,111,110,32,98,97,110,100,32,98,97,110,100,115,32,98,117,121,32,99,97,110,99,101,108,32,99,108,101,97,114,32,104,97,108,116,32,104,101,108,112,32,111,112,101,110,32,111,114,100,101,114,115,32,112,97,114,107,101,100,32,112,104,97,115,101,32,113,117,111,116,101,32,114,101,102,115,32,115,101,108,108,32,115,116,97,114,116,32,116,97,98,108,101,32,116,105,99,107]
structure aY where
 rs:List (Int×Int)
 st:Int
 dy:Int
 pr:Int
 ti:Int
 mo:Int
 aX:Option aG
def aY.zero:aY:=⟨[],0,0,0,0,0,B_⟩
def wG:List (List UInt8×Int×Int):=
 [([116,97,98,108,101],-1,1),([98,97,110,100,115],3,1),([97,117,99,116,105,111,110],2,1),([115,116,97,114,116],0,1),
  ([98,117,121],4,2),([115,101,108,108],4,2),([99,97,110,99,101,108],1,2),([116,105,99,107],0,2),([104,97,108,116],0,2),([111,112,101,110],0,2),
  ([112,104,97,115,101],0,2),([113,117,111,116,101],0,2),([114,101,102,115],0,2),([111,114,100,101,114,115],1,2),([112,97,114,107,101,100],0,2),
  ([98,97,110,100],2,0),([99,108,101,97,114],0,0),([104,101,108,112],0,0)]
def yc(w:List UInt8):Option Nat:=wG.findIdx? (λx=>x.1 == w)
def qM(d:Nat):Int:=(wG.getD d ([],0,0)).2.1
def lV(d:Nat):Int:=(wG.getD d ([],0,0)).2.2
def jU(d:Nat):List UInt8:=(wG.getD d ([],0,0)).1
def qQ(b:Int)(n:Nat):Bool:=if b=-1 then decide ((n:Int) % 2=0)else decide ((n:Int)=b)
def kN(t:Int)(H:aY):Bool:=if t=1 then H.aX.isNone else if t=2 then H.aX.isSome else G_
def jK(s:ByteArray):Option Int:=
 match O_ 64 s.data.toList with
 | .ok v=>if Wi v=s.data.toList then A_ v else B_
 |_=>B_
def jv:List ByteArray->Option (List Int)
 |[]=>A_ []
 |s::ws=>match jK s with
  |none=>B_
  |some n=>match jv ws with
   |none=>B_
   |some l=>A_ (n::l)
def lK:List Int->List (Int×Int)
 |a::b::l=>(a,b)::lK l
 |_=>[]
def nI(l:List Int)(k:Nat):Int:=l.getD k 0
def jS(side:Int)(l:List Int):Ord:=⟨nI l 0,side,nI l 1,nI l 2,nI l 3⟩
def mJ(e:Int)(t:List UInt8):Int×List UInt8:=if e=0 then(0,t)else(e,[])
def gH(d:Nat)(l:List Int)(M:aG):(Int×List UInt8)×aG:=
 match d with
 |4=>(mJ (pK M (jS 1 l)) (yY [116,97,107,101,110] (jL M (jS 1 l)).1),(jL M (jS 1 l)).2)
 |5=>(mJ (pK M (jS 2 l)) (yY [116,97,107,101,110] (jL M (jS 2 l)).1),(jL M (jS 2 l)).2)
 |6=>(mJ (tF M (nI l 0)) (jU 6),oU M (nI l 0))
 |7=>(mJ (yQ M) (yY (lQ [(fK M).2.now]) (fK M).1),(fK M).2)
 |8=>(mJ (uW M) (jU 8),oZ M)
 |9=>(mJ (yJ M) (jU 9),nV M)
 |10=>((0,lN M.ph),M)
 |11=>((0,lQ [(kR M).price,(kR M).ak,(kR M).jN]),M)
 |12=>((0,lQ [M.an,M.la]),M)
 |13=>(if nI l 0=1\/nI l 0=2 then(0,yC (aP (nI l 0) M.L))else(1,[]),M)
 |_=>((0,yC M.P),M)
def bq(d:Nat)(l:List Int)(H:aY):(Int×List UInt8)×aY:=
 match d with
 |0=>((0,jU 0),{ H with rs:=lK l })
 |1=>((0,jU 1),{ H with st:=nI l 0,dy:=nI l 1,pr:=nI l 2 })
 |2=>((0,jU 2),{ H with ti:=nI l 0,mo:=nI l 1 })
 |3=>if(newE H.rs H.st H.dy H.pr H.ti H.mo).1=0 then((0,jU 3),{ H with aX:=A_ (BN H.rs H.st H.dy H.pr H.ti H.mo) })else(((newE H.rs H.st H.dy H.pr H.ti H.mo).1,[]),H)
 |15=>(mJ (AY (nI l 0) (nI l 1)) (lQ [iB (nI l 0) (nI l 1),iA (nI l 0) (nI l 1)]),H)
 |16=>((0,jU 16),aY.zero)
 |17=>((0,aC8),H)
 |d=>match H.aX with
  |none=>((6,[]),H)
  |some M=>((gH d l M).1,{ H with aX:=A_ (gH d l M).2 })
def qG(s:ByteArray):List ByteArray:=Lib.goFieldsP (λr=>r == 32) s
def gF(s:ByteArray)(H:aY):(Int×List UInt8)×aY:=
 match qG s with
 |[]=>((0,[111,107]),H)
 |w::ws=>match yc w.data.toList with
  |none=>((3,[]),H)
  |some d=>if qQ (qM d) ws.length=E_ then((3,[]),H)else match jv ws with
   |none=>((3,[]),H)
   |some l=>if kN (lV d) H=E_ then((6,[]),H)else bq d l H
def pW(r:Int×List UInt8):List UInt8:=if r.1=0 then r.2 else tJ r.1
def ku:List ByteArray->aY->List UInt8
 |[],_=>[]
 |s::ls,H=>pW (gF s H).1++[10]++ku ls (gF s H).2
def nk:List ByteArray->aY->aY
 |[],H=>H
 |s::ls,H=>nk ls (gF s H).2
def aH3:∀(a b:List ByteArray) (H:aY),ku (a++b) H=ku a H++ku b (nk a H)
 |[],_,_=>rfl
 |s::a,b,H=>by
  show pW (gF s H).1++[10]++ku (a++b) _=pW (gF s H).1++[10]++ku a _++ku b _;rw[aH3 a b];simp[nk]
def aH2:∀(a b:List ByteArray) (H:aY),nk (a++b) H=nk b (nk a H)
 |[],_,_=>rfl
 |_::a,b,_=>aH2 a b _
def jg:List UInt8->List UInt8×List UInt8×Bool
 |[]=>([],[],E_)
 |c::s=>if c == 10 then([],s,G_)else(c::(jg s).1,(jg s).2.1,(jg s).2.2)
def oq:List UInt8->List (List UInt8)
 |[]=>[[]]
 |c::s=>if c == 10 then []::oq s else match oq s with
  |[]=>[[c]]
  |x::xs=>(c::x)::xs
def bF5(s:List UInt8):oq s≠[]:=by
 cases s with
 |nil=>simp[oq]
 |cons c s=>
  unfold oq;split
  ·simp
  ·split<;>simp
def aIi:∀s:List UInt8,oq s=(jg s).1::(if(jg s).2.2=G_ then oq (jg s).2.1 else [])
 |[]=>rfl
 |c::s=>by
  have one:oq (c::s)=if c == 10 then []::oq s else match oq s with|[]=>[[c]]|x::xs=>(c::x)::xs:=rfl
  have two:jg (c::s)=if c == 10 then([],s,G_)else(c::(jg s).1,(jg s).2.1,(jg s).2.2):=rfl
  rw[one,two]
  by_cases h:(c == 10)=G_
  ·rw[RF h,RF h];rfl
  ·rw[RD h,RD h,aIi s]
def aAq:∀s:List UInt8,(jg s).1.length+(jg s).2.1.length+(if(jg s).2.2=G_ then 1 else 0)=s.length
 |[]=>rfl
 |c::s=>by
  have:=aAq s;unfold jg
  by_cases h:(c == 10)=G_
  ·rw[RF h];simp
  ·rw[RD h];simp only[SC];omega
def aAp:∀s:List UInt8,(Lib.indexByte s 10=-1/\jg s=(s,[],E_))\/∃i:Nat,Lib.indexByte s 10=i/\i<s.length/\jg s=(s.take i,s.drop (i+1),G_)
 |[]=>RP ⟨rfl,rfl⟩
 |c::s=>by
  unfold jg Lib.indexByte
  by_cases h:(c == 10)=G_
  ·right;rw[RF h,RF h];exact⟨0,rfl,by simp,rfl⟩
  ·rw[RD h,RD h];rcases aAp s with⟨h1,h2⟩|⟨i,h1,h2,h3⟩
   ·left;rw[h1,h2];exact⟨rfl,rfl⟩
   ·right;refine⟨i+1,?_,by simp;omega,?_⟩
    ·have a:¬((i:Int) == -1)=G_:=λe=>by have:=beq_iff_eq.1 e;omega
     rw[h1,RD a];rfl
    ·rw[h3];rfl
def Ar(t:List UInt8):List UInt8:=Lib.trimSuffix t [10]
def aJl(t:List UInt8):(Ar t).length<=t.length:=by
 unfold Ar Lib.trimSuffix;split
 ·rw[Tq];omega
 ·exact au
def MF(t:List UInt8):List (List UInt8):=oq (Ar t)
def aQ(l:List UInt8):ByteArray:=⟨l.toArray⟩
def vC(t:List UInt8):List UInt8:=if 20000<t.length then tJ 4++[10]else ku ((MF t).map aQ) aY.zero
def lY(w:C_):Prop:=∃t f,w.heap[1]? = A_ (R (Lib.pow10Tab.map λz=>Value.int .u64 z).toArray t f)
def zh(w:C_)(g:Nat):Prop:=∃ev,w.cell? ⟨g,0,B_⟩=A_ ev/\(ev=.nilIface\/∃te pe,ev=.iface te pe)
structure bE(w:C_):Prop where
 et:jD w
 tab:lY w
 syn:zh w 3
 ran:zh w 4
def bE.below(h:bE w)(a:Sd B w w')(g:7<=B):bE w':=by
 obtain⟨h1,⟨t,f,h2⟩,⟨b,h3,k3⟩,⟨c,d,e⟩⟩:=h;refine⟨?_,⟨t,f,(a.block _ o7).trans h2⟩,⟨b,(a.cell (p:=⟨3,0,B_⟩) (show 3<B by omega)).trans h3,k3⟩,⟨c,(a.cell (p:=⟨4,0,B_⟩) (show 4<B by omega)).trans d,e⟩⟩;unfold jD at h1⊢;exact(a.cell (p:=⟨2,0,B_⟩) (show 2<B by omega)).trans h1
def lY.is(h:lY w){a:String}(hn:prog.globalNamed a=A_ 1):Lib.TabIs prog w a .u64 Lib.pow10Tab:=by
 obtain⟨t,f,h⟩:=h;unfold Lib.TabIs World.var?;rw[hn];simp[h]
def aA8(w:C_)(k:Nat)(os:Array Obj):Sd w.heap.size w (Go.Sort.grow (w.drewN k) os):=
 ⟨rfl,rfl,rfl,by show w.heap.size<=(w.heap++os).size;rw[Array.size_append];omega,λj a=>by
  show(w.heap++os)[j]? = w.heap[j]?;rw[Array.getElem?_append_left a]⟩
def aQ9(w:C_)(e:RZ)(s:ByteArray):Sd w.heap.size w (Lib.bytesWorld w e s):=
 ⟨rfl,rfl,rfl,by rw[Lib.bytesWorld_size];omega,λj a=>Lib.bytesWorld_at_old w e s j a⟩
def aA1(n:Int)(w:C_)(h0:-9223372036854775808<=n)(h1:n<=9223372036854775807)(a:lY w):
  Sj prog 37 #[U G n] w λe w'=>e=Y (.string (aQ (Wi n)))/\Sd w.heap.size w w':=by
 refine(Any.strconv_Itoa aRh n h0 h1 w (a.is k7)).mono ?_;rintro e w' ⟨rfl,k,os,rfl⟩;exact⟨rfl,aA8 w k os⟩
def aQi(n:Int)(w:C_)(h0:-9223372036854775808<=n)(h1:n<=9223372036854775807)(a:lY w):
  Sj prog 93 #[U G n,U G 10] w λe w'=>e=Y (.string (aQ (Wi n)))/\Sd w.heap.size w w':=by
 refine(Any.strconv_FormatInt_10 aRj n h0 h1 w (a.is k7)).mono ?_;rintro e w' ⟨rfl,k,os,rfl⟩;exact⟨rfl,aA8 w k os⟩
def aK0(s:ByteArray)(e:Ending):Prop:=
 (∃v,O_ 64 s.data.toList=.ok v/\e=Y (.tuple #[U G v,.nilIface]))\/
 ((∀v,O_ 64 s.data.toList≠.ok v)/\∃z t p,e=Y (.tuple #[U G z,.iface t p]))
def aQt(s:ByteArray)(w:C_)(d:s.size<=1000000)(h3:zh w 3)(b:zh w 4):
  Sj prog 92 #[.string s,U G 10,U G 64] w λe w'=>aK0 s e/\Sd w.heap.size w w':=by
 cases hp:O_ 64 s.data.toList with
 |ok v=>
  refine(Any.strconv_ParseInt_10_at64_ok KY s o7 v hp w).mono ?_;rintro e w' ⟨rfl,rfl|⟨t,rfl⟩⟩
  ·exact⟨RP ⟨v,hp,rfl⟩,RS _ _⟩
  ·exact⟨RP ⟨v,hp,rfl⟩,aQ9 w _ _⟩
 |«syntax»=>
  obtain⟨ev,c,k⟩:=h3;refine(Any.strconv_ParseInt_10_at64_syntax KY s o7 hp ev w c k).mono ?_;rintro e w' ⟨N,rfl,_,_,a⟩;exact⟨RN ⟨λv e=>(by rw[hp]at e;cases e),_,_,_,rfl⟩,a⟩
 |range=>
  obtain⟨ev,c,k⟩:=b;refine(Any.strconv_ParseInt_10_at64_range KY s o7 hp ev w c k).mono ?_;rintro e w' ⟨N,rfl,_,_,a⟩;exact⟨RN ⟨λv e=>(by rw[hp]at e;cases e),_,_,_,rfl⟩,a⟩
def JZ(w:C_)(bk o:Nat)(xs:List (List UInt8)):Prop:=∀(j:Nat) x,xs[j]? = A_ x->w.cell? ⟨bk,o+j,B_⟩=A_ (.string (aQ x))
def KW(bk o c:Nat)(xs:List (List UInt8))(sep:List UInt8)(w:C_)(h:JZ w bk o xs)(b:0<xs.length)(l:xs.length<=100000)(g:xs.length<=c)(f:(Yt xs sep).length<=100000000):
  Sj prog 108 #[J (A_ ⟨bk,o,B_⟩) xs.length c,.string (aQ sep)] w λe w'=>e=Y (.string (aQ (Yt xs sep)))/\Sd w.heap.size w w':=by
 have e1:(xs.map aQ).length=xs.length:=by simp
 have e2:(xs.map aQ).map (·.data.toList)=xs:=by
  rw[List.map_map];exact(SF (λx _=>rfl)).trans (List.map_id xs)
 obtain⟨x,i⟩:∃x,xs[0]? = A_ x:=⟨xs[0],Tp b⟩;have a:bk<w.heap.size:=SN w ⟨bk,o+0,B_⟩ (h 0 x i)
 have:=Any.strings_Join aBa aA6 bk o c (xs.map aQ) (aQ sep) w (λj x d=>by
  rw[Zo]at d;obtain⟨y,k,rfl⟩:=Ul.1 d;exact h j y k) a (by rw[e1];omega) (by rw[e1];exact g) (by rw[e2];show(Yt xs sep).length<=_;omega)
 rw[e1,e2]at this;exact this
def aQl(a:Option J_)(c:Nat)(sep:ByteArray)(w:C_):
  Sj prog 108 #[J a 0 c,.string sep] w λe w'=>e=Y (.string (aQ []))/\Sd w.heap.size w w':=by
 refine(Any.strings_Join_none aBa aA6 a c sep w).mono ?_;rintro e w' ⟨rfl,rfl⟩;exact⟨rfl,RS _ _⟩
def Mg:(prog.info? 9).map (λi=>(i.zero,i.size,i.bytes))=A_ (A_ (.string ⟨#[]⟩),1,16):=k7
def lY.below(h:lY w)(a:Sd w.heap.size w w'):lY w':=by
 obtain⟨t,f,h⟩:=h;exact⟨t,f,(a.block _ (lt_of_block h)).trans h⟩
def uX{m:Nat}:∀(xs:List (List UInt8)) (sep:List UInt8),(∀x∈xs,x.length<=m)->(Yt xs sep).length<=xs.length*(m+sep.length)
 |[],_,_=>Sv _
 |[x],sep,h=>by
  rw[Lib.join_one];have:=h x (SG ..);simp;omega
 |x::y::r,sep,h=>by
  have e:Yt (x::y::r) sep=x++sep++Yt (y::r) sep:=by simp[Yt,List.intercalate]
  have h1:=h x (SG ..);have h2:=uX (y::r) sep (λz a=>h z (SI _ a));rw[e,Sl,Sl];simp only[SC]at h2⊢;have:(r.length+1+1)*(m+sep.length)=(r.length+1)*(m+sep.length)+(m+sep.length):=by rw[Nat.add_mul (r.length+1) 1];omega
  omega
def lW(f:α->List UInt8)(l:List α)(k:Nat):List D_:=(l.take k).map (λz=>Value.string (aQ (f z)))++Zx (l.length - k) (.string ⟨#[]⟩)
def aKh(f:α->List UInt8)(l:List α):lW f l 0=Zx l.length (.string ⟨#[]⟩):=by simp[lW]
def bI3{l:List α}(h:k<=l.length):(lW f l k).length=l.length:=by simp[lW];omega
def aKi{l:List α}{z:α}(a:l[k]? = A_ z):(lW f l k).set k (.string (aQ (f z)))=lW f l (k+1):=by
 obtain⟨hk,rfl⟩:=Uz.1 a;unfold lW;rw[SQ hk,TY,show l.length - k=(l.length - (k+1))+1 by omega,List.replicate_succ,List.set_append];rw[RD (by simp;omega)];simp only[TL,Tq,show k - min k l.length=0 by omega,List.set_cons_zero,RY,TV,List.append_assoc,List.cons_append,List.nil_append]
def aKg{l:List α}(h:k<=l.length)(b:j<l.length):∃v,(lW f l k)[j]? = A_ v/\v.oneCell'=G_:=by
 have c:=bI3 (f:=f) h;refine⟨(lW f l k)[j]'o7,Tp o7,?_⟩;have a:=List.getElem_mem (l:=lW f l k) (n:=j) o7;generalize(lW f l k)[j]'o7=v at a;unfold lW at a;rcases List.mem_append.1 a with a|a
 ·obtain⟨z,_,rfl⟩:=Ti.1 a;rfl
 ·rw[List.eq_of_mem_replicate a];rfl
def aKj{l:List α}{g:Nat}(h:w.ownsRow a 9 1 (J (A_ ⟨g,0,B_⟩) l.length cap) l.length (lW f l l.length)):JZ w g 0 (l.map f):=λj x b=>by
 have c:j<l.length:=by have:=(Uz.1 b).1;simpa using this
 have:=h.cellAt j o7;rw[Nat.zero_add,this];unfold lW;rw[List.take_length,Nat.sub_self,List.replicate_zero,UK,Zo];rw[Zo]at b;obtain⟨y,d,rfl⟩:=Ul.1 b;rw[d];rfl
def Bp(b o cap:Nat)(l:List Int)(w:C_)(O:∀j z,l[j]? = A_ z->w.cell? ⟨b,o+j,B_⟩=A_ (U G z))(Q:∀z∈l,-9223372036854775808<=z/\z<=9223372036854775807)(h0:0<l.length)(h9:l.length<=10)(P:lY w):
  Sj prog 78 #[J (A_ ⟨b,o,B_⟩) l.length cap] w λe w'=>e=Y (.string (aQ (lQ l)))/\Sd w.heap.size w w':=by
 obtain⟨i0,hi,D,E,F⟩:=info_parts Mg;have M:=ah O;have I:=ah Q;have V:=ah P;clear O Q P;go_enter func78,ntmps78;go_wp2_with (at_make;refine wpList_make_full _ rfl _ _ 22 rfl w.heap.size 9 i0 (.string ⟨#[]⟩) 1 underlying22 hi D E _ _ _ _ l.length rfl rfl (by go_num) (by go_num) (by rw[F];omega) (by unfold maxLen;omega) au ?_;intro wt a C);have A:Sd w.heap.size w wt:=(RS _ _).grown C au (λ_ Z=>by cases Z);rw[show(Value.string ⟨#[]⟩:D_).cells=#[.string ⟨#[]⟩] from rfl,Nat.mul_one,toList_madeCells_one,<-aKh Wi l]at a;have S:Hid _:=a;have R:=ah A;clear a A C hi D E F;go_wp2_with fail
 go_loopw [4,5,11] (λ_ _ u wr=>∃k:Nat,k<=l.length/\u=U G k/\wr.ownsRow w.heap.size 9 1 (J (A_ ⟨w.heap.size,0,B_⟩) l.length l.length) l.length (lW Wi l k)/\Sd w.heap.size w wr)
  (λ_ _ u _=>l.length - (intOf u).toNat)
 case atStart=>exact⟨0,Sv _,rfl,S.out,R.out⟩
 case round=>
  obtain⟨k,hk,rfl,g,N⟩:=hrel;have c:=ah N;have s:Hid _:=g;clear g N
  by_cases d:k<l.length
  ·obtain⟨z,i⟩:∃z,l[k]? = A_ z:=⟨l[k],Tp d⟩;have W:=ah i;have X:wr.cell? ⟨b,o+k,B_⟩=A_ (U G z):=(c.out.cell (p:=⟨b,o+k,B_⟩) (SN w _ (M.out k z i))).trans (M.out k z i);have B:=I.out z (List.mem_of_getElem? i);clear i;go_wp2_with fail;refine(aA1 z wr B.1 B.2 (V.out.below c.out)).mono ?_;rintro e w2 ⟨rfl,r⟩;have q:Hid (w2.ownsRow w.heap.size 9 1 (J (A_ ⟨w.heap.size,0,B_⟩) l.length l.length) l.length (lW Wi l k)):=jw s.out r au;have H:=ah (aJ c.out r);obtain⟨v,hv,_⟩:=aKg (f:=Wi) hk d;have c2:w2.cell? ⟨w.heap.size,k,B_⟩=A_ v:=by rw[q.out.cellAt k o7];exact hv
   have f2:=q.out.frozenAt k;have T:Hid _:=(q.out.stored k (.string (aQ (Wi z)))).1;have n:Hid (Sd w.heap.size w (w2.setCell ⟨w.heap.size,k,B_⟩ (.string (aQ (Wi z))))):=H.out.setCell (p:=⟨w.heap.size,k,B_⟩) au _;clear r X hv;go_wp2_with fail;go_roundw
   case rel=>exact⟨k+1,d,by go_num,by rw[<-aKi W.out];exact T.out,n.out⟩
   case measure=>first|(simp[intOf];omega)|(show l.length - (k+1)<l.length - k;omega)|omega
  ·obtain rfl:k=l.length:=o7;have t:=aKj s.out
   have L:(Yt (l.map Wi) [32]).length<=100000000:=by
    have:=uX (m:=21) (l.map Wi) [32] (λx hx=>by
     obtain⟨z,i,rfl⟩:=Ti.1 hx;exact Lib.itoa_length_le z (I.out z i).1 (I.out z i).2)
    simp at this;omega
   clear d;go_wp2_with fail;have K:=KW w.heap.size 0 l.length (l.map Wi) [32] wr t (by simpa using h0) (by simp;omega) s7 L;rw[TL]at K;refine K.mono ?_;rintro e w3 ⟨rfl,y⟩;have n:=ah (aJ c.out y);clear y t K;go_wp2_with fail;go_ret;exact⟨rfl,n.out⟩
def Ml:Maps.Keyed prog 9:=Maps.string_keyed underlying9
def Mq(h:s.size<=maxLen):keyOf prog 9 (.string s)=A_ (.string s.data.toList):=WideMaps.keyOf_string_mk underlying9 h
def aKl(w:C_):(zeroValue 90).run prog w=.ok (.agg #[U G 0,U G 0,.nilFunc]) w:=k7
def xZ:List Nat:=[38,39,40,41,42,43,44,45,46,47,48,49,50,51,52,53,54,55]
def wD(v:D_):Option (VN Unit×List MemPlace):=
 match v with
 | .agg ⟨[.int .i64 a,.int .i64 b,.func (.func f) ⟨[.pointer (A_ ⟨sb,0,B_⟩)]⟩ ⟨[]⟩]⟩=>A_ (.agg [.lit (.int .i64 a),.lit (.int .i64 b),.lit (.int .i64 (f:Nat)),.lit (.int .i64 (sb:Nat))],[])
 | .agg ⟨[.int .i64 a,.int .i64 b,.nilFunc]⟩=>A_ (.agg [.lit (.int .i64 a),.lit (.int .i64 b)],[])
 |_=>B_
def iO(a b:Int)(f sb:Nat):VN Unit:=.agg [.lit (.int .i64 a),.lit (.int .i64 b),.lit (.int .i64 f),.lit (.int .i64 sb)]
def wF:VN Unit:=.agg [.lit (.int .i64 0),.lit (.int .i64 0)]
def FQ(a b:Int)(f sb:Nat):D_:=.agg #[U G a,U G b,.func (.func f) #[E (A_ ⟨sb,0,B_⟩)] #[]]
def aPh(a b:Int)(f sb:Nat):wD (FQ a b f sb)=A_ (iO a b f sb,[]):=rfl
def aPg{a b:Int}{f:Nat}(h:wD v=A_ (iO a b f sb,ps)):v=FQ a b f sb:=by
 unfold wD at h;split at h
 ·simp only[iO,Option.some.injEq,Prod.mk.injEq,DataW.agg.injEq,List.cons.injEq,DataW.lit.injEq,Lit.int.injEq,true_and,and_true]at h;obtain⟨⟨rfl,rfl,h3,c⟩,_⟩:=h;obtain rfl:=Int.ofNat.inj h3;obtain rfl:=Int.ofNat.inj c;rfl
 ·simp[iO]at h
 ·cases h
def aPi(h:wD v=A_ (wF,ps)):v=.agg #[.int .i64 0,.int .i64 0,.nilFunc]:=by
 unfold wD at h;split at h
 ·simp[wF]at h
 ·simp only[wF,Option.some.injEq,Prod.mk.injEq,DataW.agg.injEq,List.cons.injEq,DataW.lit.injEq,Lit.int.injEq,true_and,and_true]at h;obtain⟨⟨rfl,rfl⟩,_⟩:=h;rfl
 ·cases h
def sD(D:VN Unit)(l:List (List UInt8×VN Unit)):VN Unit:=l.foldl (λD x=>D.put (.string x.1) x.2) D
def aG0:∀(l:List (List UInt8×VN Unit)) {D:VN Unit},(∃es,D=.map es)->∃es,sD D l=.map es
 |[],_,h=>h
 |x::l,D,h=>aG0 l (by obtain⟨es,rfl⟩:=h;exact⟨_,rfl⟩)
def aIs{a b:List UInt8}(h:a≠b):(Lit.string a)≠Lit.string b:=λe=>h (by injection e)
def aIr(a:List UInt8):WideAt.IsKeyLit (Lit.string a):=trivial
def NQ(k:List UInt8)(z:VN Unit):∀(l:List (List UInt8×VN Unit)) {D:VN Unit},(∃es,D=.map es)->(∀x∈l,x.1≠k)->(sD D l).atKey (.string k) z=D.atKey (.string k) z/\Maps.has (sD D l) (.string k)=Maps.has D (.string k)
 |[],_,_,_=>⟨rfl,rfl⟩
 |x::l,D,hD,h=>by
  have a:k≠x.1:=λe=>h x (SG ..) e.symm
  obtain⟨h1,h2⟩:=NQ k z l (D:=D.put (.string x.1) x.2) (by obtain⟨es,rfl⟩:=hD;exact⟨_,rfl⟩) (λy b=>h y (SI _ b));exact⟨h1.trans (Maps.atKey_put_other (aIs a) _ _),h2.trans (Maps.has_put_other (aIs a) _)⟩
def bCl(D:VN Unit)(a b:List (List UInt8×VN Unit)):sD D (a++b)=sD (sD D a) b:=List.foldl_append ..
def bCm(k:List UInt8)(v z:VN Unit)(a b:List (List UInt8×VN Unit))(d:∃es,D=.map es)(h:∀x∈b,x.1≠k):(sD D (a++(k,v)::b)).atKey (.string k) z=v/\Maps.has (sD D (a++(k,v)::b)) (.string k)=G_:=by
 rw[bCl];obtain⟨es,c⟩:=aG0 a d;obtain⟨h1,h2⟩:=NQ k z b (D:=(sD D a).put (.string k) v) (by rw[c];exact⟨_,rfl⟩) h;exact⟨h1.trans (Maps.atKey_put_same ⟨es,c⟩ (aIr _) _ _),h2.trans (Maps.has_put_same ⟨es,c⟩ (aIr _) _)⟩
def qd(sb:Nat):List (List UInt8×VN Unit):=[([116,97,98,108,101],iO (-1) 1 38 sb),
  ([98,97,110,100,115],iO (3) 1 39 sb),
  ([97,117,99,116,105,111,110],iO (2) 1 40 sb),
  ([115,116,97,114,116],iO (0) 1 41 sb),
  ([98,117,121],iO (4) 2 42 sb),
  ([115,101,108,108],iO (4) 2 43 sb),
  ([99,97,110,99,101,108],iO (1) 2 44 sb),
  ([116,105,99,107],iO (0) 2 45 sb),
  ([104,97,108,116],iO (0) 2 46 sb),
  ([111,112,101,110],iO (0) 2 47 sb),
  ([112,104,97,115,101],iO (0) 2 48 sb),
  ([113,117,111,116,101],iO (0) 2 49 sb),
  ([114,101,102,115],iO (0) 2 50 sb),
  ([111,114,100,101,114,115],iO (1) 2 51 sb),
  ([112,97,114,107,101,100],iO (0) 2 52 sb),
  ([98,97,110,100],iO (2) 0 53 sb),
  ([99,108,101,97,114],iO (0) 0 54 sb),
  ([104,101,108,112],iO (0) 0 55 sb)]
def mP(w:C_)(mb sb:Nat):Prop:=w.ownsMap prog 9 wD mb 18 (sD (.map []) (qd sb))
def aPj{k:List UInt8}(h:yc k=B_):∀x∈wG,x.1≠k:=λx a e=>by
 have:=List.findIdx?_eq_none_iff.1 h x a;simp[e]at this
def aAs(sb:Nat):(qd sb).map Zy=wG.map Zy:=rfl
def aPf{k:List UInt8}(sb:Nat)(h:yc k=B_):∀x∈qd sb,x.1≠k:=λx a e=>by
 have h1:x.1∈(qd sb).map Zy:=ZW a;rw[aAs]at h1;obtain⟨y,b,e2⟩:=Ti.1 h1;exact aPj h y b (e2.trans e)
def Bn{k:List UInt8}(h:yc k=A_ d):d<18/\k=jU d:=by
 obtain⟨a,h1,_⟩:=List.findIdx?_eq_some_iff_getElem.1 h;refine⟨a,?_⟩;have h2:=beq_iff_eq.1 h1;rw[<-h2];unfold jU;rw[SY,Tp a];rfl
def aPe(sb:Nat):∀d,d<18->(sD (.map []) (qd sb)).atKey (.string (jU d)) wF=iO (qM d) (lV d) (xZ.getD d 0) sb/\Maps.has (sD (.map []) (qd sb)) (.string (jU d))=G_:=by
 intro d a
 have b:∀(n:Nat) (hn:n<18),∀x∈(qd sb).drop (n+1),x.1≠jU n:=by
  intro n hn x c e;have h1:x.1∈((qd sb).drop (n+1)).map Zy:=ZW c;rw[List.map_drop,aAs,e]at h1
  revert h1
  have:∀n,n<18->¬(jU n∈(wG.map Zy).drop (n+1)):=d7;exact this n hn
 have split:qd sb=(qd sb).take d++(jU d,iO (qM d) (lV d) (xZ.getD d 0) sb)::(qd sb).drop (d+1):=by
  have f:d<(qd sb).length:=a
  have e:(qd sb)[d]=(jU d,iO (qM d) (lV d) (xZ.getD d 0) sb):=by
   match d,a with
   |0,_=>rfl
   |1,_=>rfl
   |2,_=>rfl
   |3,_=>rfl
   |4,_=>rfl
   |5,_=>rfl
   |6,_=>rfl
   |7,_=>rfl
   |8,_=>rfl
   |9,_=>rfl
   |10,_=>rfl
   |11,_=>rfl
   |12,_=>rfl
   |13,_=>rfl
   |14,_=>rfl
   |15,_=>rfl
   |16,_=>rfl
   |17,_=>rfl
   |n+18,h=>exact absurd h o7
  rw[<-e,List.getElem_cons_drop,List.take_append_drop]
 rw[split];exact bCm _ _ _ _ _ ⟨[],rfl⟩ (b d a)
def mP.same(h:mP w mb sb)(a:w'.heap[mb]? = w.heap[mb]?):mP w' mb sb:=NC h a
def mP.lt(h:mP w mb sb):mb<w.heap.size:=World.ownsMap.lt h
def mP.aXt(h:mP w mb sb)(e:s.size<=maxLen)(b:yc s.data.toList=A_ d):
  (Instr.lookup 58 (.map (A_ mb)) (.string s) G_).run prog w=.ok (.tuple #[FQ (qM d) (lV d) (xZ.getD d 0) sb,.bool G_]) w:=by
 obtain⟨a,hk⟩:=Bn b;obtain⟨v,ps,c,hv⟩:=World.ownsMap.look_ok h Ml underlying58 (aKl w) (zd:=wF) (zp:=[]) rfl (Mq e);obtain⟨h1,h2⟩:=aPe sb d a;rw[hk,h1]at hv;rw[c,hk,h2,aPg hv]
def mP.aXs(h:mP w mb sb)(c:s.size<=maxLen)(a:yc s.data.toList=B_):
  (Instr.lookup 58 (.map (A_ mb)) (.string s) G_).run prog w=.ok (.tuple #[.agg #[U G 0,U G 0,.nilFunc],.bool E_]) w:=by
 obtain⟨v,ps,b,hv⟩:=World.ownsMap.look_ok h Ml underlying58 (aKl w) (zd:=wF) (zp:=[]) rfl (Mq c);obtain⟨h1,h2⟩:=NQ s.data.toList wF (qd sb) (D:=.map []) ⟨[],rfl⟩ (aPf sb a);rw[h1]at hv;have e:(DataW.map []).atKey (.string s.data.toList) wF=wF:=rfl;have e2:Maps.has (DataW.map (H:=Unit) []) (.string s.data.toList)=E_:=rfl;rw[e]at hv;rw[b,h2,e2,aPi hv]
def mh(ho:w.ownsMap prog 9 wD mb n D)(hn:n<100)(s:ByteArray)(c:s.size<=maxLen)(a b:Int)(f:Nat):
  ∃w',(Instr.mapUpdate 58 (.map (A_ mb)) (.string s) (.agg #[U G a,U G b,.func (.func f) #[E (A_ ⟨sb,0,B_⟩)] #[]])).run prog w=.ok () w'
   /\w'.ownsMap prog 9 wD mb (n+1) (D.put (.string s.data.toList) (iO a b f sb))/\w.grownBy w' (A_ mb):=
 ho.update Ml underlying58 (by unfold maxLen;omega) (Mq c) (aPh a b f sb)
def aQf(sb:Nat)(w:C_):Sj prog 13 #[E (A_ ⟨sb,0,B_⟩)] w λe w'=>e=Y (.map (A_ w.heap.size))/\mP w' w.heap.size sb/\Sd w.heap.size w w':=by
 have a1:=@run_makeMap prog;have a0:∀(fn:Fn) (first cap:Array D_) (w:C_),(Instr.makeFunc fn first cap).run prog w=.ok (.func fn first cap) w:=λ_ _ _ _=>rfl
 have h0:=Yk w prog 9 wD;obtain⟨w1,r1,o1,T⟩:=mh (sb:=sb) h0 o7 ⟨#[116,97,98,108,101]⟩ d7 (-1) 1 38;obtain⟨w2,r2,o2,U⟩:=mh (sb:=sb) o1 o7 ⟨#[98,97,110,100,115]⟩ d7 (3) 1 39;obtain⟨w3,r3,o3,V⟩:=mh (sb:=sb) o2 o7 ⟨#[97,117,99,116,105,111,110]⟩ d7 (2) 1 40;obtain⟨w4,r4,o4,W⟩:=mh (sb:=sb) o3 o7 ⟨#[115,116,97,114,116]⟩ d7 (0) 1 41;obtain⟨w5,r5,o5,X⟩:=mh (sb:=sb) o4 o7 ⟨#[98,117,121]⟩ d7 (4) 2 42;obtain⟨w6,r6,o6,Z⟩:=mh (sb:=sb) o5 o7 ⟨#[115,101,108,108]⟩ d7 (4) 2 43;obtain⟨w7,r7,p7,g7⟩:=mh (sb:=sb) o6 o7 ⟨#[99,97,110,99,101,108]⟩ d7 (1) 2 44;obtain⟨w8,r8,o8,g8⟩:=mh (sb:=sb) p7 (by omega) ⟨#[116,105,99,107]⟩ (by decide) (0) 2 45;obtain⟨w9,r9,o9,g9⟩:=mh (sb:=sb) o8 (by omega) ⟨#[104,97,108,116]⟩ (by decide) (0) 2 46;obtain⟨a9,Et,z,p⟩:=mh (sb:=sb) o9 (by omega) ⟨#[111,112,101,110]⟩ (by decide) (0) 2 47;obtain⟨c0,a2,A,q⟩:=mh (sb:=sb) z (by omega) ⟨#[112,104,97,115,101]⟩ (by decide) (0) 2 48;obtain⟨c1,a3,B,r⟩:=mh (sb:=sb) A (by omega) ⟨#[113,117,111,116,101]⟩ (by decide) (0) 2 49;obtain⟨c2,a4,C,s⟩:=mh (sb:=sb) B (by omega) ⟨#[114,101,102,115]⟩ (by decide) (0) 2 50;obtain⟨c3,a5,D,t⟩:=mh (sb:=sb) C (by omega) ⟨#[111,114,100,101,114,115]⟩ (by decide) (1) 2 51;obtain⟨c4,Eu,F,u⟩:=mh (sb:=sb) D (by omega) ⟨#[112,97,114,107,101,100]⟩ (by decide) (0) 2 52;obtain⟨c5,a6,G,v⟩:=mh (sb:=sb) F (by omega) ⟨#[98,97,110,100]⟩ (by decide) (2) 0 53;obtain⟨c6,a7,H,x⟩:=mh (sb:=sb) G (by omega) ⟨#[99,108,101,97,114]⟩ (by decide) (0) 0 54;obtain⟨c7,a8,I,y⟩:=mh (sb:=sb) H (by omega) ⟨#[104,101,108,112]⟩ (by decide) (0) 0 55;have hF:=ah I;have one:∀{a b:C_},a.grownBy b (A_ w.heap.size)->w.heap.size<=a.heap.size->Sd w.heap.size a b:=fun {a b} g hs=>(RS _ a).grown g hs (λk hk=>by injection hk with e;omega)
 have J:Sd w.heap.size w (w.alloc (.map #[] 0)):=(RS _ w).alloc au _;have K:=J.trans (one T J.size);have L:=K.trans (one U K.size);have M:=L.trans (one V L.size);have N:=M.trans (one W M.size);have O:=N.trans (one X N.size);have P:=O.trans (one Z O.size);have Q:=P.trans (one g7 P.size);have R:=Q.trans (one g8 Q.size);have S:=R.trans (one g9 R.size);have c:=S.trans (one p S.size);have d:=c.trans (one q c.size);have f:=d.trans (one r d.size);have i:=f.trans (one s f.size);have j:=i.trans (one t i.size);have l:=j.trans (one u j.size);have m:=l.trans (one v l.size);have n:=m.trans (one x m.size);have o:=n.trans (one y n.size);have hB:=ah o;clear o1 T K o2 U L o3 V M o4 W N o5 X O o6 Z P p7 g7 Q o8 g8 R o9 g9 S z p c A q d B r f C s i D t j F u l G v m H x n I y o J h0 one;go_enter func13,ntmps13;go_wp2;go_ret;exact⟨rfl,hF.out,hB.out⟩
def aAm{more:Int}{x:Pt}(h:x∈bG l more):x.bQ=gX x.price l/\x.sup=gZ x.price l/\x.price∈jh l more:=by
 obtain⟨q,a,rfl⟩:=Ti.1 h;rw[JB (Am _),Ci]at a;exact⟨rfl,rfl,a⟩
def RA(l:List Pt)(around:Int):(bH l around).ak=(if fU l<1 then 0 else fU l):=by
 unfold bH
 by_cases h:fU l<1
 ·rw[RF h,RF h]
 ·rw[RD h,RD h];exact(KJ around o7).2
def aAn{more:Int}(around:Int)(h:0<(bH (bG l more) around).ak):
  (bH (bG l more) around).ak=min (gX (bH (bG l more) around).price l) (gZ (bH (bG l more) around).price l)/\(bH (bG l more) around).jN=gX (bH (bG l more) around).price l - gZ (bH (bG l more) around).price l:=by
 have b:¬fU (bG l more)<1:=λe=>by
  rw[RA,RF e]at h;omega
 have a:bH (bG l more) around=Cb (zC (bG l more) around):=RD b;obtain⟨h1,_⟩:=KJ (l:=bG l more) around o7;obtain⟨e1,e2,_⟩:=aAm h1;rw[a];unfold Cb bI;dsimp only;rw[e1,e2];exact⟨rfl,rfl⟩
def aO3{more:Int}(e:l.length<=1000)(hp:∀o∈l,-1099511627776<=o.price/\o.price<=1099511627776)(f:more<=1099511627776):∀x∈bG l more,x.Small:=λx b=>by
 obtain⟨e1,e2,h3⟩:=aAm b;have a1:=KT x.price l;have c:=OX x.price l;refine⟨?_,by rw[e1];omega,by rw[e2];omega⟩;rcases wZ.1 h3 with⟨d,a⟩|⟨o,ho,_,a⟩
 ·omega
 ·rw[<-a];exact hp o ho
def aO1(l:List Ord)(more:Int):(bG l more).length<=l.length+1:=by
 unfold bG yR;rw[TL];have h1:=aJt (kD (jh l more)) (kD (jh l more)).length;have h2:=OD (jh l more);have h3:=bCb l more;omega
def aF3(h:dZ l){o:Ord}(ho:o∈l):okO o=G_:=by
 have h1:=h.side o ho;have h2:=h.ok o ho;unfold okO DN;simp only[SV,decide_eq_true_iff];omega
def aPq(h:dZ l):gX p l=dw 1 p l:=by
 unfold gX dw
 congr 1
 refine SF (λo ho=>?_)
 have e:qN p o=(o.side == 1&& jR 1 p o):=by
  unfold qN jR;rw[aF3 h ho];rcases h.side o ho with e|e<;>simp[e]
 rw[e]
def bGz(h:dZ l):gZ p l=dw 2 p l:=by
 unfold gZ dw
 congr 1
 refine SF (λo ho=>?_)
 have e:qZ p o=(o.side == 2&& jR 2 p o):=by
  unfold qZ jR;rw[aF3 h ho];rcases h.side o ho with e|e<;>simp[e]
 rw[e]
def QF{more:Int}(around:Int)(h:dZ l)(a:0<(bH (bG l more) around).ak):pV (bH (bG l more) around).price ⟨[],l,(bH (bG l more) around).ak⟩:=by
 obtain⟨e,_⟩:=aAn around a;rw[aPq h,bGz h]at e;exact⟨h,by show 0<=(bH (bG l more) around).ak;omega,by show(bH (bG l more) around).ak<=dw 1 _ l;omega,by show(bH (bG l more) around).ak<=dw 2 _ l;omega⟩
def jl(m:aG):List dx×aG:=
 if 0<(aV m).ak then((Dp (aV m).price (aV m).ak m.L).fs,{ m with L:=(Dp (aV m).price (aV m).ak m.L).L,an:=(aV m).price,la:=(aV m).price })else([],m)
def bHy(m:aG):dF m=((jl m).1,{ (jl m).2 with L:=zW (jl m).2.L }):=by
 unfold dF jl;split<;>rfl
def aB0{p:Int}:∀(n:Nat) {s:FS},pV p s->pV p (qP p n s)/\(qP p n s).L.length<=s.L.length
 |0,_,h=>⟨h,au⟩
 |n+1,s,h=>by
  unfold qP
  by_cases b:s.q<=0
  ·rw[RF b];exact⟨h,au⟩
  ·rw[RD b];obtain⟨⟨x,T,y,U,_,_,_,_,_,_,_,_,_,_,_,_,e,_,_,_⟩,h1⟩:=Dv h o7;have h2:=aB0 n h1;refine⟨h2.1,RV h2.2 ?_⟩;rw[e];have a1:=UC (λo:Ord=>decide (0<o.ak)) ((bR x.id (dD s) s.L).map (dO y.id (dD s)));have a:=UC (λo:Ord=>decide (0<o.ak)) (s.L.map (dO x.id (dD s)));rw[TL]at a1 a;exact RV a1 a
def aUi(h:hasB (qh p) r=G_):¬r=p:=by
 intro e;subst e;unfold qh at h;split at h
 ·rename_i e;subst e;exact absurd h d7
 split at h
 ·rename_i e;subst e;exact absurd h d7
 split at h
 ·rename_i e;subst e;exact absurd h d7
 split at h
 ·rename_i e;subst e;exact absurd h d7
 ·cases h
def Oq{p r:Int×Int}(h:pQ p r=0):¬r.2=p.2/\p.1<r.1:=by
 unfold pQ vH at h;split at h
 ·rename_i h1;refine⟨aUi h1,?_⟩;split at h
  ·cases h
  ·omega
 ·cases h
def Jb{p r:Int×Int}(h:jk p k (r::rs)=(0,-1)):pQ p r=0/\jk r (k+1) rs=(0,-1):=by
 unfold jk at h;split at h
 ·rename_i e;exact⟨e,h⟩
 ·rename_i e;exact absurd (RJ Zy h) e
def NH{p:Int×Int}:∀{rs:List (Int×Int)},jk p k rs=(0,-1)->now<=p.1->∃n,bK p.2 now rs=(p.2,n)
 |[],_,_=>⟨-1,rfl⟩
 |r::rs,h,hn=>by
  obtain⟨h1,_⟩:=Jb h;have:=(Oq h1).2;exact⟨r.1,by unfold bK;rw[RF o7]⟩
def bAz{now:Int}(h0:0<=now):∀{rs:List (Int×Int)} {p:Int×Int} {k:Nat},jk p k rs=(0,-1)->p.1<=now->
  ((bK p.2 now rs).2=now+1↔¬(bK p.2 (now+1) rs).1=(bK p.2 now rs).1)/\((bK p.2 now rs).2=-1\/now<(bK p.2 now rs).2)
   /\((bK p.2 (now+1) rs).1=(bK p.2 now rs).1->(bK p.2 (now+1) rs).2=(bK p.2 now rs).2)
 |[],p,k,_,_=>by simp[bK];omega
 |r::rs,p,k,h,hp=>by
  obtain⟨h1,h2⟩:=Jb h;obtain⟨a,f⟩:=Oq h1
  by_cases d:r.1<=now
  ·have e1:bK p.2 now (r::rs)=bK r.2 now rs:=by unfold bK;rw[RD o7];cases rs<;>rfl
   have e2:bK p.2 (now+1) (r::rs)=bK r.2 (now+1) rs:=by unfold bK;rw[RD o7];cases rs<;>rfl
   rw[e1,e2];exact bAz h0 h2 d
  ·have e1:bK p.2 now (r::rs)=(p.2,r.1):=by unfold bK;rw[RF o7]
   by_cases b:r.1=now+1
   ·obtain⟨n,c⟩:=NH (now:=now+1) h2 o7;have e2:bK p.2 (now+1) (r::rs)=(r.2,n):=by rw[<-c];unfold bK;rw[RD o7];cases rs<;>rfl
    rw[e1,e2];exact⟨⟨λ_=>a,λ_=>b⟩,RN (by simp;omega),λe=>absurd e a⟩
   ·have e2:bK p.2 (now+1) (r::rs)=(p.2,r.1):=by unfold bK;rw[RF o7]
    rw[e1,e2];exact⟨⟨λe=>absurd e b,λe=>absurd rfl e⟩,RN (by simp;omega),λ_=>rfl⟩
def Jv(h:eZ rs=(0,-1)):0<rs.length/\dA rs 0=(0,1)/\jk (dA rs 0) 1 (rs.drop 1)=(0,-1):=by
 cases rs with
 |nil=>exact absurd (RJ Zy h) d7
 |cons r rs=>
  rw[Cq]at h;split at h
  ·exact absurd (RJ Zy h) d7
  split at h
  ·rename_i e;exact⟨Nat.succ_pos _,e,h⟩
  ·exact absurd (RJ Zy h) d7
def aFh{now:Int}:∀{rs:List (Int×Int)} {p:Int×Int} {k:Nat},jk p k rs=(0,-1)->p.1<=now->
  (bK p.2 (now+1) rs).1=(bK p.2 now rs).1\/hasB (qh (bK p.2 now rs).1) (bK p.2 (now+1) rs).1=G_
 |[],p,k,_,_=>RP rfl
 |r::rs,p,k,h,hp=>by
  obtain⟨h1,h2⟩:=Jb h;obtain⟨d,e⟩:=Oq h1
  by_cases c:r.1<=now
  ·have e1:bK p.2 now (r::rs)=bK r.2 now rs:=by unfold bK;rw[RD o7];cases rs<;>rfl
   have e2:bK p.2 (now+1) (r::rs)=bK r.2 (now+1) rs:=by unfold bK;rw[RD o7];cases rs<;>rfl
   rw[e1,e2];exact aFh h2 c
  ·have e1:bK p.2 now (r::rs)=(p.2,r.1):=by unfold bK;rw[RF o7]
   by_cases f:r.1=now+1
   ·obtain⟨n,b⟩:=NH (now:=now+1) h2 o7;have e2:bK p.2 (now+1) (r::rs)=(r.2,n):=by rw[<-b];unfold bK;rw[RD o7];cases rs<;>rfl
    rw[e1,e2];right;show hasB (qh p.2) r.2=G_;unfold pQ vH at h1
    by_cases a:hasB (qh p.2) r.2=G_
    ·exact a
    ·rw[RD a]at h1;cases h1
   ·have e2:bK p.2 (now+1) (r::rs)=(p.2,r.1):=by unfold bK;rw[RF o7]
    rw[e1,e2];exact RP rfl
def bB2(h:eZ rs=(0,-1))(h0:0<=now):(bY rs (now+1)).1=(bY rs now).1\/hasB (qh (bY rs now).1) (bY rs (now+1)).1=G_:=by
 obtain⟨_,h1,h2⟩:=Jv h;exact aFh h2 (by rw[h1];exact h0)
def aCd(h:hasB (qh p) r=G_):(p=1/\r=2)\/(p=2/\r=3)\/(p=3/\(r=5\/r=7))\/(p=5/\r=7):=by
 unfold qh at h;split at h
 ·rename_i e;exact RP ⟨e,by simpa[hasB]using h⟩
 split at h
 ·rename_i e;exact RN (RP ⟨e,by simpa[hasB]using h⟩)
 split at h
 ·rename_i e;exact RN (RN (RP ⟨e,by simpa[hasB]using h⟩))
 split at h
 ·rename_i e;exact RN (RN (RN ⟨e,by simpa[hasB]using h⟩))
 ·cases h
def aGm{now:Int}:∀{rs:List (Int×Int)} {p:Int×Int} {k:Nat},jk p k rs=(0,-1)->(p.2=1\/p.2=2\/p.2=3\/p.2=5\/p.2=7)->(bK p.2 now rs).1=1\/(bK p.2 now rs).1=2\/(bK p.2 now rs).1=3\/(bK p.2 now rs).1=5\/(bK p.2 now rs).1=7
 |[],p,k,_,hp=>hp
 |r::rs,p,k,h,hp=>by
  obtain⟨h1,h2⟩:=Jb h
  by_cases b:now<r.1
  ·have e1:bK p.2 now (r::rs)=(p.2,r.1):=by unfold bK;rw[RF b]
   rw[e1];exact hp
  ·have e1:bK p.2 now (r::rs)=bK r.2 now rs:=by unfold bK;rw[RD b];cases rs<;>rfl
   rw[e1];refine aGm h2 ?_
   have a:hasB (qh p.2) r.2=G_:=by
    unfold pQ vH at h1
    by_cases a:hasB (qh p.2) r.2=G_
    ·exact a
    ·rw[RD a]at h1;cases h1
   rcases aCd a with⟨_,e⟩|⟨_,e⟩|⟨_,e|e⟩|⟨_,e⟩<;>omega
def bB1(h:eZ rs=(0,-1)):(bY rs now).1=1\/(bY rs now).1=2\/(bY rs now).1=3\/(bY rs now).1=5\/(bY rs now).1=7:=by
 obtain⟨_,h1,h2⟩:=Jv h;exact aGm h2 (by rw[h1];exact RP rfl)
def zl(w:C_)(ao:Option J_)(m:Nat)(news:List D_):Prop:=(m=0/\news=[])\/∃ad,ao=A_ ad/\∀j u,news[j]? = A_ u->w.cell? (ad.add j)=A_ u
def aHq(w:C_)(t ty:RZ)(d:Nat)(e:RZ)(i:Yj)(z:D_)(size b:Nat)(r:P.underlying t=A_ (.slice e))(hi:P.info? e=A_ i)(L:i.zero=A_ z)(j:i.size=size)(A:i.bytes=b)(D:z.cells.size=size)(C:0<size)(v:D_)(n:Nat)(xs:List D_)(f:w.ownsRow d e size v n xs)(s:Option J_)(m c:Nat)(news:List D_)(G:news.length=m*size)(K:zl w s m news)(h1:∀u∈news,u.oneCell'=G_)(y:n+m<=maxLen)(l:(n+m)*b<=140737488355328)(p:d<=w.heap.size):
  ∃v' w',(Builtin.append_ #[t,t] ty #[v,J s m c]).run P w=.ok v' w'/\
   w'.ownsRow d e size v' (n+m) (xs++news)/\w.grownBy w' v.ownBlock/\∀k,v'.ownBlock=A_ k->v.ownBlock=A_ k\/w.heap.size<=k:=by
 by_cases H:0<m
 ·rcases K with⟨h0,_⟩|⟨ad,rfl,F⟩
  ·omega
  ·obtain⟨g,cap,w',I,h2,h3,q,M⟩:=run_append_lies (P:=P) w t ty d e i z size b r hi L j A D C v n xs f ad m c news G F h1 H y l p _ rfl;refine⟨_,w',I,h2,h3,λk hk=>?_⟩;have E:g=k:=by simpa[Value.ownBlock]using hk
   subst E;rcases q with q|q
   ·exact RP q
   ·exact RN o7
 ·obtain rfl:m=0:=o7;obtain rfl:news=[]:=List.eq_nil_of_length_eq_zero o7;obtain⟨x,o,rfl,B,_⟩:=lJ f;refine⟨J x n o,w,?_,by rw[Nat.add_zero,UK];exact f,World.grownBy.refl _ _,λk hk=>RP hk⟩
  exact run_append_nothing w t t ty e i r hi _ n o B _ (by
    rw[j];cases s with
    |none=>exact Src.ofNil (w:=w) (hk:=r) (c:=c)
    |some ad=>exact Src.ofSlice (w:=w) (hk:=r) (a:=ad) (n:=0) (c:=c) (news:=[]) s7 s7 s7)
def bI1(w:C_){q:Array Oper}{g:List Oper}{a:Act}(B:o.guard=B_)(s x:Operand)(t:RZ)(ho:o.op=.call { callee:=.builtin .append,args:=#[s,x],argTypes:=#[t,t] })(d:Nat)(e:RZ)(i:Yj)(z:D_)(size b:Nat)(L:P.underlying t=A_ (.slice e))(hi:P.info? e=A_ i)(N:i.zero=A_ z)(l:i.size=size)(A:i.bytes=b)(D:z.cells.size=size)(C:0<size)(v:D_)(n:Nat)(xs:List D_)(I:a.eval s=v)(p:w.ownsRow d e size v n xs)(r:Option J_)(m c:Nat)(news:List D_)(hv:a.eval x=J r m c)(G:news.length=m*size)(M:zl w r m news)(h1:∀u∈news,u.oneCell'=G_)(y:n+m<=maxLen)(f:(n+m)*b<=140737488355328)(j:d<=w.heap.size)(h:∀v' w',w'.ownsRow d e size v' (n+m) (xs++news)->w.grownBy w' v.ownBlock->(∀k,v'.ownBlock=A_ k->v.ownBlock=A_ k\/w.heap.size<=k)->wpList P q Q g (a.put o.dst v') w'):wpList P q Q (o::g) a w:=by
 refine wpList_plain B λK F=>?_
 obtain⟨v',w',H,h2,h3,E⟩:=aHq (P:=P) w t o.type d e i z size b L hi N l A D C v n xs p r m c news G M h1 y f j;unfold Oper.wp execOp;simp only[ho,resolve,invoke,builtin,Sem.run_bind,Sem.run_pure,Result.andThen_ok,List.map_toArray,RY,TV,I,hv,H];exact F _ _ (h v' w' h2 h3 E)
def bGa(w:C_){p:Array Oper}{a:Act}{K:Act->C_->Prop}{E:Prop}(A:o.guard=B_)(s x:Operand)(t:RZ)(ho:o.op=.call { callee:=.builtin .append,args:=#[s,x],argTypes:=#[t,t] })(d:Nat)(e:RZ)(i:Yj)(z:D_)(size b:Nat)(I:P.underlying t=A_ (.slice e))(hi:P.info? e=A_ i)(M:i.zero=A_ z)(j:i.size=size)(y:i.bytes=b)(C:z.cells.size=size)(B:0<size)(v:D_)(n:Nat)(xs:List D_)(H:a.eval s=v)(l:w.ownsRow d e size v n xs)(q:Option J_)(m c:Nat)(news:List D_)(hv:a.eval x=.slice q m c)(F:news.length=m*size)(L:zl w q m news)(h1:∀u∈news,u.oneCell'=G_)(r:n+m<=maxLen)(f:(n+m)*b<=140737488355328)(g:d<=w.heap.size)(h:∀v' w',w'.ownsRow d e size v' (n+m) (xs++news)->w.grownBy w' v.ownBlock->(∀k,v'.ownBlock=A_ k->v.ownBlock=A_ k\/w.heap.size<=k)->K (a.put o.dst v') w'):
  if Region.wanted o (yielded p a.tmps)=G_ then Oper.wp P o a w K Q else E:=by
 have J:Region.wanted o (yielded p a.tmps)=G_:=by simp[Region.wanted,A]
 rw[RF J];obtain⟨v',w',G,h2,h3,D⟩:=aHq (P:=P) w t o.type d e i z size b I hi M j y C B v n xs l q m c news F L h1 r f g;unfold Oper.wp execOp;simp only[ho,resolve,invoke,builtin,Sem.run_bind,Sem.run_pure,Result.andThen_ok,List.map_toArray,RY,TV,H,hv,G];exact h v' w' h2 h3 D
def zl.pI{d:Option J_}(h:w.ownsRow a 155 5 (J d l.length cap) l.length (oV l))(k:Sd w.heap.size w W):zl W d l.length (oV l):=by
 cases l with
 |nil=>exact RP ⟨rfl,rfl⟩
 |cons o l=>
  have i:=jw h k au;obtain⟨g,f,hv,_,_⟩:=i.form s7;simp only[Value.slice.injEq,true_and]at hv;obtain⟨rfl,rfl⟩:=hv;refine RN ⟨_,rfl,λj u c=>?_⟩
  have b:j<(oV (o::l)).length:=by
   rcases Us j (oV (o::l)).length with h2|h2
   ·exact h2
   ·rw[List.getElem?_eq_none h2]at c;cases c
  have h2:=(i.cellAt j (by rw[yH]at b;exact b)).trans c;rw[<-h2]
  by_cases e:j=0
  ·subst e;rfl
  ·simp[Addr.add,e]
def OG{α:Type}(p:α->Bool):∀l:List α,(l.filter p++l.filter λx=>!p x).Perm l
 |[]=>List.Perm.refl _
 |x::l=>by
  cases h:p x with
  |true=>simpa[h]using(OG p l).cons x
  |false=>
   have h1:((x::l).filter p)=l.filter p:=by simp[h]
   have h2:((x::l).filter λx=>!p x)=x::l.filter λx=>!p x:=by simp[h]
   rw[h1,h2];exact List.perm_middle.trans ((OG p l).cons x)
def EG{L:List Ord}(h:dZ L):(aP 1 L++aP 2 L).Perm L:=by
 have e:lI 2 L=L.filter λo=>!(o.side == 1):=by
  unfold lI;refine Xz (λo ho=>?_);rcases h.side o ho with e|e<;>rw[e]<;>rfl
 have h1:(aP 1 L).Perm (L.filter λo=>o.side == 1):=Ao _ _
 have h2:(aP 2 L).Perm (L.filter λo=>!(o.side == 1)):=by
  rw[<-e];exact Ao _ _
 exact(h1.append h2).trans (OG _ L)
def Bo(p:Int)(o:Ord)(l:List Ord):gX p (o::l)=(if qN p o=G_ then o.ak else 0)+gX p l:=by simp[gX]
def Cn(p:Int)(o:Ord)(l:List Ord):gZ p (o::l)=(if qZ p o=G_ then o.ak else 0)+gZ p l:=by simp[gZ]
def aPo(p:Int)(h:l.Perm l'):gX p l=gX p l':=by
 induction h with
 |nil=>rfl
 |cons x _ ih=>rw[Bo,Bo,ih]
 |swap x y l=>rw[Bo,Bo,Bo,Bo];omega
 |trans _ _ h1 h2=>exact h1.trans h2
def bGx(p:Int)(h:l.Perm l'):gZ p l=gZ p l':=by
 induction h with
 |nil=>rfl
 |cons x _ ih=>rw[Cn,Cn,ih]
 |swap x y l=>rw[Cn,Cn,Cn,Cn];omega
 |trans _ _ h1 h2=>exact h1.trans h2
def aO2{a:List Ord}(h:l.Perm a)(more:Int):bG l more=bG a more:=by
 have e:yR (kD (jh l more))=yR (kD (jh a more)):=by
  refine aAl (aJv (Am _)) (λp=>?_);rw[JB (Am _),Ci,wZ,wZ];constructor
  ·rintro(h1|⟨o,ho,h1⟩)
   ·exact RP h1
   ·exact RN ⟨o,h.mem_iff.2 ho,h1⟩
  ·rintro(h1|⟨o,ho,h1⟩)
   ·exact RP h1
   ·exact RN ⟨o,h.mem_iff.1 ho,h1⟩
 unfold bG;rw[e];refine SF (λp _=>?_);rw[aPo p h,bGx p h]
def aN(q:Ord->Bool)(l:List Ord):Int:=(l.map λo=>if q o=G_ then o.ak else 0).sum
def iH(o:Ord):Bool:=(o.kind == 2)&& (o.side == 1)
def iT(o:Ord):Bool:=(o.kind == 2)&& !(o.side == 1)
def dV(p:Int)(o:Ord):Bool:=!(o.kind == 2)&& ((o.price == p)&& (o.side == 1))
def gy(p:Int)(o:Ord):Bool:=!(o.kind == 2)&& ((o.price == p)&& !(o.side == 1))
def dh(q:Int->Ord->Bool)(xs:List Int)(l:List Ord):Int:=(xs.map λp=>aN (q p) l).sum
def yP(q:Ord->Bool)(o:Ord)(l:List Ord):aN q (o::l)=(if q o=G_ then o.ak else 0)+aN q l:=by simp[aN]
def OQ(q:Ord->Bool)(h:k<l.length):aN q (l.take (k+1))=aN q (l.take k)+(if q (aO l k)=G_ then(aO l k).ak else 0):=by
 unfold aN;rw[SQ h,TY,YX,OW,pG h]
def aIv{q:Ord->Bool}(h:k<l.length)(a:q (aO l k)=E_):aN q (l.take (k+1))=aN q (l.take k):=by rw[OQ q h,RD (by rw[a];decide)];omega
def Jr{q q':Ord->Bool}:∀{l:List Ord},(∀o∈l,q o=q' o)->aN q l=aN q' l
 |[],_=>rfl
 |o::l,h=>by
  rw[yP,yP,h o (SG ..),Jr (λx a=>h x (SI _ a))]
def OP{q q':Ord->Bool}:∀{l:List Ord},(∀o∈l,q o=G_->q' o=E_)->aN q l+aN q' l=aN (λo=>q o || q' o) l
 |[],_=>rfl
 |o::l,h=>by
  have b:=OP (l:=l) (λx a=>h x (SI _ a));have ho:=h o (SG ..);rw[yP,yP,yP,<-b];cases h1:q o with
  |true=>rw[ho h1];simp;omega
  |false=>cases h2:q' o<;>simp<;>omega
def aIu{q:Ord->Bool}:∀{l:List Ord},(∀o∈l,okO o=G_)->0<=aN q l/\aN q l<=1000000*(l.length:Int)
 |[],_=>by simp[aN]
 |o::l,h=>by
  have b:=aIu (q:=q) (l:=l) (λx a=>h x (SI _ a));have ho:=(Ef (h o (SG ..))).2;rw[yP,SC];split<;>omega
def ru{q:Ord->Bool}(h:∀o∈l,okO o=G_)(a:l.length<=1000):0<=aN q l/\aN q l<=1000000000:=by
 have:=aIu (q:=q) h;omega
def Ns(h:∀o∈l,okO o=G_)(k:Nat):∀o∈l.take k,okO o=G_:=λo ho=>h o (List.mem_of_mem_take ho)
def aIy(q:Int->Ord->Bool)(l:List Ord):dh q [] l=0:=rfl
def aIz(q:Int->Ord->Bool):∀xs:List Int,dh q xs []=0
 |[]=>rfl
 |x::xs=>by
  have e:dh q (x::xs) []=aN (q x) []+dh q xs []:=by simp[dh]
  rw[e,aIz q xs];rfl
def OU(q:Int->Ord->Bool)(x:Int)(xs:List Int)(l:List Ord):dh q (x::xs) l=aN (q x) l+dh q xs l:=by simp[dh]
def aI0(q:Int->Ord->Bool)(xs:List Int)(x:Int)(l:List Ord):dh q (xs++[x]) l=dh q xs l+aN (q x) l:=by
 unfold dh;rw[TY,YX,OW]
def bGu{q:Int->Ord->Bool}(l:List Ord)(h:k<xs.length):dh q (xs.drop k) l=aN (q (xs.getD k 0)) l+dh q (xs.drop (k+1)) l:=by
 rw[List.drop_eq_getElem_cons h,OU];simp[h]
def bGv{q:Int->Ord->Bool}(l:List Ord)(h:k<xs.length):dh q (xs.take (k+1)) l=dh q (xs.take k) l+aN (q (xs.getD k 0)) l:=by
 rw[SQ h,aI0];simp[h]
def aF4(c:Bool)(p v:Int):∀{xs:List Int},xs.Nodup->(xs.map λx=>if((p == x)&& c)=G_ then v else 0).sum=if(c&& decide (p∈xs))=G_ then v else 0
 |[],_=>by simp
 |x::xs,h=>by
  rw[List.nodup_cons]at h;rw[RY,List.sum_cons,aF4 c p v h.2];cases c with
  |false=>simp
  |true=>
   by_cases e:p=x
   ·subst e;simp[h.1]
   ·simp[e]
def aIx(q:Int->Ord->Bool)(o:Ord)(l:List Ord):∀xs:List Int,dh q xs (o::l)=(xs.map λp=>if q p o=G_ then o.ak else 0).sum+dh q xs l
 |[]=>rfl
 |x::xs=>by
  rw[OU,OU,aIx q o l xs,yP,RY,List.sum_cons];omega
def OT(c:Ord->Bool){q:Int->Ord->Bool}(b:∀p o,q p o=(!(o.kind == 2)&& ((o.price == p)&& c o))){xs:List Int}(h:xs.Nodup):∀l:List Ord,dh q xs l=aN (λo=>!(o.kind == 2)&& (c o&& decide (o.price∈xs))) l
 |[]=>aIz _ _
 |o::l=>by
  rw[aIx,OT c b h l,yP]
  congr 1
  have e:=aF4 (c o) o.price o.ak h;cases hk:(o.kind == 2)with
  |true=>
   have:(xs.map λp=>if q p o=G_ then o.ak else 0)=xs.map λ_=>0:=by
    congr 1;funext p;rw[b,hk];simp
   rw[this]
   have z:∀a:List Int,(a.map λ_=>(0:Int)).sum=0:=λa=>by induction a with
    |nil=>rfl
    |cons y a ih=>rw[RY,List.sum_cons,ih];rfl
   rw[z];simp
  |false=>
   have:(xs.map λp=>if q p o=G_ then o.ak else 0)=xs.map λp=>if((o.price == p)&& c o)=G_ then o.ak else 0:=by
    congr 1;funext p;rw[b,hk];simp
   rw[this,e];simp
def EK(h:xs.Nodup)(l:List Ord):dh dV xs l=aN (λo=>!(o.kind == 2)&& ((o.side == 1)&& decide (o.price∈xs))) l:=OT (λo=>o.side == 1) (λ_ _=>rfl) h l
def aIw(h:xs.Nodup)(l:List Ord):dh gy xs l=aN (λo=>!(o.kind == 2)&& (!(o.side == 1)&& decide (o.price∈xs))) l:=OT (λo=>!(o.side == 1)) (λ_ _=>rfl) h l
def bGt{a:List Int}(h:xs.Nodup)(b:a.Nodup)(c:∀p,p∈xs↔p∈a)(l:List Ord):dh dV xs l=dh dV a l:=by
 rw[EK h,EK b];exact Jr (λo _=>by simp[c])
def EA(h:xs.Pairwise (· < ·)):xs.Nodup:=h.imp (λe=>by omega)
def IX(h:xs.Pairwise (· < ·)){i:Nat}(a:i<j)(b:j<xs.length):xs.getD i 0<xs.getD j 0:=by
 rw[SY,SY,Tp o7,Tp b,Sq,Sq];exact List.pairwise_iff_getElem.1 h i j o7 b a
def aE3(h:q∈xs):∃i,i<xs.length/\xs.getD i 0=q:=by
 obtain⟨i,hi,e⟩:=Yv.1 h;exact⟨i,hi,by simpa[hi]using e⟩
def aP1:q∈xs.drop k↔∃i,k<=i/\i<xs.length/\xs.getD i 0=q:=by
 rw[Yv];constructor
 ·rintro⟨i,hi,e⟩;rw[WO]at hi;refine⟨k+i,o7,o7,?_⟩;rw[List.getElem_drop]at e
  simpa[SY,show k+i<xs.length by omega]using e
 ·rintro⟨i,h1,h2,e⟩;refine⟨i - k,by rw[WO];omega,?_⟩;rw[List.getElem_drop];simp only[show k+(i - k)=i by omega]
  simpa[SY,h2]using e
def bG7:q∈xs.take k↔∃i,i<k/\i<xs.length/\xs.getD i 0=q:=by
 rw[Yv];constructor
 ·rintro⟨i,hi,e⟩;rw[Tq]at hi;rw[List.getElem_take]at e;exact⟨i,o7,o7,by simpa[SY,show i<xs.length by omega]using e⟩
 ·rintro⟨i,h1,h2,e⟩;refine⟨i,by rw[Tq];omega,?_⟩;rw[List.getElem_take]
  simpa[SY,h2]using e
def bDw(h:xs.Pairwise (· < ·))(hk:k<xs.length)(c:q∈xs):q∈xs.drop k↔xs.getD k 0<=q:=by
 rw[aP1];obtain⟨i,hi,rfl⟩:=aE3 c;constructor
 ·rintro⟨j,h1,h2,e⟩;rw[<-e];rcases Nat.lt_or_eq_of_le h1 with h3|rfl
  ·exact Int.le_of_lt (IX h h3 h2)
  ·exact Int.le_refl _
 ·intro b;refine⟨i,?_,hi,rfl⟩
  by_cases a:i<k
  ·have:=IX h a hk;omega
  ·omega
def bDx(h:xs.Pairwise (· < ·))(hk:k<xs.length)(c:q∈xs):q∈xs.take (k+1)↔q<=xs.getD k 0:=by
 rw[bG7];obtain⟨i,hi,rfl⟩:=aE3 c;constructor
 ·rintro⟨j,h1,h2,e⟩;rw[<-e];rcases Nat.lt_or_eq_of_le (Nat.le_of_lt_succ h1)with h3|rfl
  ·exact Int.le_of_lt (IX h h3 hk)
  ·exact Int.le_refl _
 ·intro b;refine⟨i,?_,hi,rfl⟩
  by_cases a:k<i
  ·have:=IX h a hi;omega
  ·omega
def aPp(a:∀o∈F,okO o=G_)(h:xs.Pairwise (· < ·))(b:∀o∈F,mH o=G_->o.price∈xs)(hk:k<xs.length):
  aN iH F+dh dV (xs.drop k) F=gX (xs.getD k 0) F:=by
 rw[EK ((EA h).sublist (List.drop_sublist ..)),OP (λo _ h1=>by unfold iH at h1;rw[SV]at h1;simp[h1.1])];refine Jr (q':=qN (xs.getD k 0)) (λo ho=>?_);have h1:=a o ho;unfold iH qN;rw[h1];cases hk2:(o.kind == 2)with
 |true=>simp
 |false=>
  have hn:mH o=G_:=by unfold mH;rw[h1,hk2];rfl
  have:=bDw h hk (b o ho hn);simp only[m_,XU,VO,L_]
  congr 1
  rw[Vm,decide_eq_true_iff,decide_eq_true_iff];exact this
def bGy(a:∀o∈F,okO o=G_)(h:xs.Pairwise (· < ·))(b:∀o∈F,mH o=G_->o.price∈xs)(hk:k<xs.length):
  aN iT F+dh gy (xs.take (k+1)) F=gZ (xs.getD k 0) F:=by
 rw[aIw ((EA h).sublist (List.take_sublist ..)),OP (λo _ h1=>by unfold iT at h1;rw[SV]at h1;simp[h1.1])];refine Jr (q':=qZ (xs.getD k 0)) (λo ho=>?_);have h1:=a o ho;have h2:=(Ef h1).1
 have c:(o.side == 2)=!(o.side == 1):=by
  rw[Vm];simp;omega
 unfold iT qZ;rw[h1,c];cases hk2:(o.kind == 2)with
 |true=>simp
 |false=>
  have hn:mH o=G_:=by unfold mH;rw[h1,hk2];rfl
  have:=bDx h hk (b o ho hn);simp only[m_,XU,VO,L_]
  congr 1
  rw[Vm,decide_eq_true_iff,decide_eq_true_iff];exact this
def aAu(p:Int):∀l:List Ord,gX p (l.filter okO)=gX p l
 |[]=>rfl
 |o::l=>by
  have e:gX p (o::l)=(if qN p o=G_ then o.ak else 0)+gX p l:=by simp[gX]
  have a:=aAu p l;rw[e]
  by_cases h:okO o=G_
  ·rw[Xm,RF h];have e2:gX p (o::l.filter okO)=(if qN p o=G_ then o.ak else 0)+gX p (l.filter okO):=by simp[gX]
   rw[e2,a]
  ·rw[Xm,RD h,a];have:qN p o=E_:=by unfold qN;simp[h]
   rw[this];simp
def aI4(p:Int):∀l:List Ord,gZ p (l.filter okO)=gZ p l
 |[]=>rfl
 |o::l=>by
  have e:gZ p (o::l)=(if qZ p o=G_ then o.ak else 0)+gZ p l:=by simp[gZ]
  have a:=aI4 p l;rw[e]
  by_cases h:okO o=G_
  ·rw[Xm,RF h];have e2:gZ p (o::l.filter okO)=(if qZ p o=G_ then o.ak else 0)+gZ p (l.filter okO):=by simp[gZ]
   rw[e2,a]
  ·rw[Xm,RD h,a];have:qZ p o=E_:=by unfold qZ;simp[h]
   rw[this];simp
def bCd(l:List Ord)(more:Int):jh (l.filter okO) more=jh l more:=by
 unfold jh;rw[List.filter_filter]
 congr 2
 refine Xz (λo _=>?_);unfold mH;cases okO o<;>simp
def pO(xs:List Int)(l:List Ord):List Pt:=xs.map λp=>⟨p,gX p l,gZ p l⟩
def bCk(l:List Ord)(h:k<xs.length):pO (xs.take (k+1)) l=pO (xs.take k) l++[⟨xs.getD k 0,gX (xs.getD k 0) l,gZ (xs.getD k 0) l⟩]:=by
 unfold pO;rw[SQ h,TY,YX];simp[h]
def bCj{more:Int}(h:xs.Pairwise (· < ·))(a:∀p,p∈xs↔p∈jh (l.filter okO) more):pO xs (l.filter okO)=bG l more:=by
 unfold pO bG;rw[aAl h (λp=>by rw[a,bCd])];refine SF (λp _=>?_);rw[aAu,aI4]
def bFz(h:xs.Nodup):(kD xs).Pairwise (· < ·):=by
 have h1:=Am xs;have h2:(kD xs).Nodup:=(List.mergeSort_perm xs _).nodup_iff.2 h;refine(h1.and h2).imp (λ⟨a,b⟩=>by omega)
end Go.Proofs.YtpodibeogglplaaGreatDoor
