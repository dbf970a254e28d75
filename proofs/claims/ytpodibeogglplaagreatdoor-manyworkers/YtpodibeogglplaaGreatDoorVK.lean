/- ManyWorkers -/
import GoSem.Step
import Derived.KernelRfl
open Array renaming foldl_toList->Yd, map_map->Vt, map_congr_left->Tw, forIn_toList->YQ, getElem?_map->VL, ext'->YA
open Bool renaming false->E_, true->G_, eq_iff_iff->Vm, not_true->Va, false_eq_true->SE, not_false->VO
open Go renaming FuncId->XG, Addr->J_, Value->D_, Program->TB, TypeId->RZ, Question->UD, FloatKind->Zj
open Go.Builtin renaming firstCells->YT, holdsCells->YU, zeroCells->Un, mayShare->XY, clear_->Ye
open Go.Instr renaming fill->Zv, makeInterface->ZV, typeAssert->YG, enterLoop->Yp, endRound->Xv, deferInRound->YV, takeDeferred->YW, lookup->Vx, mapUpdate->Xf, makeSlice->T_
open Go.Sem renaming bind->ZB
open List renaming foldl_cons->U_, map_cons->RY, foldlM_cons->YI
open Option renaming none->B_, some->A_, map->TF, map_some->Si, map_none->XH
set_option linter.all false
set_option maxHeartbeats 4000000
namespace Go.Rn
theorem k7 {p : Prop} (h : p := by kernel_rfl) : p := h
theorem o7 {p : Prop} (h : p := by omega) : p := h
theorem d7 {p : Prop} (h : p := by decide) : p := h
theorem r7 {p : Prop} (h : p := by rfl) : p := h
theorem s7 {p : Prop} (h : p := by simp) : p := h
theorem a7 {p : Prop} (h : p := by assumption) : p := h
theorem g7 {p : Prop} (h : p := by repeat' first|kernel_rfl|(intros; kernel_rfl)|decide|constructor) : p := h
theorem RD {c:Prop} {h:Decidable c} (d:¬c) {α:Type _} {t e:α}:ite c t e=e:=if_neg d
theorem RF {c:Prop} {h:Decidable c} (d:c) {α:Type _} {t e:α}:ite c t e=t:=if_pos d
theorem RG {α:Type _} [BEq α] [LawfulBEq α] {a b:α}:(a==b)=E_↔a≠b:=beq_eq_false_iff_ne
theorem RH {p:Prop} [i:Decidable p]:¬p->decide p=E_:=decide_eq_false
theorem RI {p:Prop} [i:Decidable p]:p->decide p=G_:=decide_eq_true
theorem RJ {α:Sort _} {β:Sort _} {a b:α} (f:α→β) (h:a=b):f a=f b:=congrArg f h
structure Ren where
 b:Nat->Nat
 f:XG->XG
 m:String->String
 bad:Builtin->Bool
 c:Code->Code
 fs:XG->Prop
 ms:String->Prop
 asym:Bool
 wb:Nat->Nat
 gh:Nat->Bool:=λ_=>E_
 lax:Bool:=E_
 hgh:∀r,gh r=G_->lax=G_:=by intro r h;cases h
 vg:Nat->Bool:=λ_=>E_
 vx:Bool:=E_
 BA:∀r,vg r=G_->vx=G_:=by intro r h;cases h
def addr(π:Ren)(a:J_):J_:={ a with block:=π.b a.block }
def fn(π:Ren):Fn->Fn
 | .func f=>.func (π.f f)
 | .via t p f q=>.via t p (π.f f) q
 | .yield l=>.yield (π.b l)
 | .method n=>.method (π.m n)
 | .methodOf t n=>.methodOf t (π.m n)
def val(π:Ren):D_->D_
 | .pointer a=>.pointer (a.map (addr π))
 | .slice a l c=>.slice (a.map (addr π)) l c
 | .map r=>.map (r.map π.b)
 | .chan r=>.chan (r.map π.b)
 | .func g first captured=>.func (fn π g) (first.map (val π)) (captured.map (val π))
 | .iface t v=>.iface t (val π v)
 | .agg cs=>.agg (cs.map (val π))
 | .tuple vs=>.tuple (vs.map (val π))
 | .bool b=>.bool b
 | .int k n=>.int k n
 | .float k n=>.float k n
 | .complex k n m=>.complex k n m
 | .string s=>.string s
 | .nilFunc=>.nilFunc
 | .nilIface=>.nilIface
def vals(π:Ren)(vs:Array D_):Array D_:=vs.map (val π)
def entry(π:Ren)(e:MapEntry):MapEntry:={ e with key:=val π e.key,val:=val π e.val }
def target(π:Ren):Target->Target
 | .fn f c=>.fn (fn π f) (vals π c)
 | .collected r=>.collected (π.b r)
 | .coroexit c=>if π.bad .print then .nil else .coroexit (π.b c)
 | .nil=>.nil
 | .builtin b a t c=>if π.bad b then .nil else .builtin b a t c
def deferred(π:Ren)(d:Deferred):Deferred:=⟨target π d.target,vals π d.args⟩
def loop(π:Ren)(l:Loop):Loop:={ l with pending:=l.pending.map π.c,fn:=π.f l.fn,tmps:=vals π l.tmps,assign:=π.c l.assign,body:=π.c l.body,defers:=π.b l.defers }
def obj(π:Ren):Obj->Obj
 | .cells c e f=>.cells (vals π c) e f
 | .pending c e=>.pending (vals π c) e
 | .view a t=>.view (addr π a) t
 | .number a l=>.number (addr π a) l
 | .map es c=>.map (es.map (entry π)) c
 | .chan cap buf cl s r t=>.chan cap (vals π buf) cl s r t
 | .stringIter s p=>.stringIter s p
 | .mapIter m s seen st=>.mapIter (m.map π.b) s seen st
 | .loop l=>.loop (loop π l)
 | .deferred cs=>.deferred (cs.map (·.map (deferred π)))
 | .coro p=>.coro p
 | .finalizers fs r=>.finalizers (fs.map λx=>(π.b x.1,deferred π x.2)) r
def kV(π:Ren):Unsupported->Unsupported
 | .initOrder g=>.initOrder (π.b g)
 |u=>u
def halt(π:Ren):Halt->Halt
 | .panic v=>.panic (val π v)
 | .unsupported u=>.unsupported (kV π u)
 |h=>h
def mark(π:Ren):Mark->Mark
 | .acquire a=>.acquire (addr π a)
 | .release a=>.release (addr π a)
 | .releaseMerge a=>.releaseMerge (addr π a)
 | .read a=>.read (addr π a)
 | .write a=>.write (addr π a)
 |m=>m
inductive nH (π:Ren):Next->Next->Prop
 |value (v):nH π (.value v) (.value (val π v))
 |skip:nH π .skip .skip
 |enter (f args):π.fs f->nH π (.enter f args) (.enter f (vals π args))
 |round (l f tmps a b):nH π (.round l f tmps a b) (.round (π.b l) (π.f f) (vals π tmps) (π.c a) (π.c b))
 |defer (d):nH π (.defer d) (.defer (deferred π d))
 |recover:nH π .recover .recover
def np:Obj->Bool
 | .pending .. =>E_
 |_=>G_
def pJ:Mark->Bool
 | .extern _| .noRoom=>G_
 |_=>E_
def sw:Halt->Bool
 | .panic _| .stuck _| .throw _=>G_
 | .unsupported (.initOrder _)=>E_
 | .unsupported _=>G_
 |_=>E_
inductive Bad {α:Type}:Sem α->Prop
 |stuck (s):Bad (.halt (.stuck s))
 |kV (u):sw (.unsupported u)=G_->Bad (.halt (.unsupported u))
 |mark (m k):Bad k->Bad (.mark m k)
inductive GB (P:TB) (π:Ren) {α:Type}:Sem α->Prop
 |bad (s):Bad s->GB P π s
 |gone (r k):π.gh r=G_->GB P π (.getObj r k)
 |get (r k):(∀o,np o=G_->GB P π (k o))->GB P π (.getObj r k)
 |shape (r k):(∀s,(π.gh r=G_->s=B_)->GB P π (k s))->GB P π (.shape r k)
 |frozen (a k):(∀s,(π.gh a.block=G_->s=E_)->GB P π (k s))->GB P π (.frozen a k)
 |prog (k):GB P π (k P)->GB P π (.program k)
inductive aC (P:TB) (π:Ren) {α β:Type} (A:α->β->Prop):Sem α->Sem β->Prop
 |pure {a b}:A a b->aC P π A (.pure a) (.pure b)
 |load {m a k k'}:(∀v,aC P π A (k v) (k' (val π v)))->aC P π A (.load m a k) (.load m (addr π a) k')
 |store {m a v k k'}:aC P π A k k'->aC P π A (.store m a v k) (.store m (addr π a) (val π v) k')
 |new {o k k'}:np o=G_->(∀r,π.gh r=E_->aC P π A (k r) (k' (π.b r)))->aC P π A (.new o k) (.new (obj π o) k')
 |shape {r k k'}:π.gh r=E_->(∀s,aC P π A (k s) (k' s))->aC P π A (.shape r k) (.shape (π.b r) k')
 |xu {r k k'}:π.gh r=G_->(∀s,aC P π A (k B_) (k' s))->aC P π A (.shape r k) (.shape (π.b r) k')
 |freeze {a n k k'}:π.gh a.block=E_->aC P π A k k'->aC P π A (.freeze a n k) (.freeze (addr π a) n k')
 |uT {a k k'}:π.gh a.block=G_->(∀s,aC P π A (k E_) (k' s))->aC P π A (.frozen a k) (.frozen (addr π a) k')
 |frozen {a k k'}:π.gh a.block=E_->(∀s s',(π.asym=E_->s'=s)->(s'=G_->s=G_)->aC P π A (k s) (k' s'))->aC P π A (.frozen a k) (.frozen (addr π a) k')
 |getObj {r k k'}:(∀o,np o=G_->aC P π A (k o) (k' (obj π o)))->aC P π A (.getObj r k) (.getObj (π.b r) k')
 |setObj {r o k k'}:np o=G_->aC P π A k k'->aC P π A (.setObj r o k) (.setObj (π.b r) (obj π o) k')
 |choose {q k k'}:(∀n,aC P π A (k n) (k' n))->aC P π A (.choose q k) (.choose q k')
 |sys {k k'}:(∀n,aC P π A (k n) (k' n))->aC P π A (.sys .env k) (.sys .env k')
 |program {k k'}:aC P π A (k P) (k' P)->aC P π A (.program k) (.program k')
 |mark {m k k'}:pJ m=G_->aC P π A k k'->aC P π A (.mark m k) (.mark m k')
 |halt {h}:sw h=G_->aC P π A (.halt h) (.halt (halt π h))
 |bad {s s'}:π.asym=G_->Bad s->aC P π A s s'
 |nil {s s'}:π.lax=G_->GB P π s->aC P π A s s'
 |vD {s r k'}:π.asym=G_->(∀x,aC P π A s (k' x))->aC P π A s (.shape r k')
 |wN {s a k'}:π.asym=G_->(∀x,aC P π A s (k' x))->aC P π A s (.frozen a k')
 |bH {q k s' n}:π.asym=G_->q.forced=E_->(∃t,q.cut t=n)->aC P π A (k n) s'->aC P π A (.choose q k) s'
variable {α β:Type} {P:TB} {π:Ren} {γ δ:Type} {A:α->β->Prop} {s':Sem β} {f':β->Sem δ} {u:Unsupported} {v:D_} {m:Mode} {o:Obj} {t:RZ} {B:γ->β->Prop} {b:J_} {e:RZ} {p:Prop} {x:D_} {l:Nat} {lo hi mx:Option D_} {i:Nat} {args:Array D_} {ts:Array RZ} {c:Prop} {r':Sem β} {a':Bool} {z:D_} {y:Int}
def Bad.bind{s:Sem α}{f:α->Sem β}(h:Bad s):Bad (s.bind f):=by
 induction h with
 |stuck s=>exact .stuck s
 |kV u h=>exact .kV u h
 |mark m k _ ih=>exact .mark m _ ih
def GB.bind{s:Sem α}{f:α->Sem β}(h:GB P π s):GB P π (s.bind f):=by
 induction h with
 |bad s h=>exact .bad _ h.bind
 |gone r k h=>exact .gone r _ h
 |get r k _ ih=>exact .get r _ ih
 |shape r k _ ih=>exact .shape r _ ih
 |frozen a k _ ih=>exact .frozen a _ ih
 |prog k _ ih=>exact .prog _ ih
def aC.bind{B:γ->δ->Prop}{s:Sem α}{f:α->Sem γ}(h:aC P π A s s')(hk:∀a b,A a b->aC P π B (f a) (f' b)):
  aC P π B (s.bind f) (s'.bind f'):=by
 induction h with
 |pure h=>exact hk _ _ h
 |load _ ih=>exact .load ih
 |store _ ih=>exact .store ih
 |new n _ ih=>exact .new n ih
 |shape n _ ih=>exact .shape n ih
 |xu n _ ih=>exact .xu n ih
 |uT n _ ih=>exact .uT n ih
 |freeze n _ ih=>exact .freeze n ih
 |frozen n _ ih=>exact .frozen n λs s' h1 h2=>ih s s' h1 h2
 |getObj _ ih=>exact .getObj ih
 |setObj n _ ih=>exact .setObj n ih
 |choose _ ih=>exact .choose ih
 |sys _ ih=>exact .sys ih
 |program _ ih=>exact .program ih
 |mark n _ ih=>exact .mark n ih
 |halt n=>exact .halt n
 |bad a h=>exact .bad a h.bind
 |nil a h=>exact .nil a h.bind
 |vD a _ ih=>exact .vD a ih
 |wN a _ ih=>exact .wN a ih
 |bH a h1 h2 _ ih=>exact .bH a h1 h2 ih
def aC.bind'{B:γ->δ->Prop}{s:Sem α}{f:α->Sem γ}(h:aC P π A s s')(hk:∀a b,A a b->aC P π B (f a) (f' b)):
  aC P π B (s >>= f) (s' >>= f'):=aC.bind h hk
def aC.mono{c:α->β->Prop}{s:Sem α}(h:aC P π A s s')(hk:∀a b,A a b->c a b):aC P π c s s':=by
 induction h with
 |pure h=>exact .pure (hk _ _ h)
 |load _ ih=>exact .load ih
 |store _ ih=>exact .store ih
 |new n _ ih=>exact .new n ih
 |shape n _ ih=>exact .shape n ih
 |xu n _ ih=>exact .xu n ih
 |uT n _ ih=>exact .uT n ih
 |freeze n _ ih=>exact .freeze n ih
 |frozen n _ ih=>exact .frozen n λs s' h1 h2=>ih s s' h1 h2
 |getObj _ ih=>exact .getObj ih
 |setObj n _ ih=>exact .setObj n ih
 |choose _ ih=>exact .choose ih
 |sys _ ih=>exact .sys ih
 |program _ ih=>exact .program ih
 |mark n _ ih=>exact .mark n ih
 |halt n=>exact .halt n
 |bad a h=>exact .bad a h
 |nil a h=>exact .nil a h
 |vD a _ ih=>exact .vD a ih
 |wN a _ ih=>exact .wN a ih
 |bH a h1 h2 _ ih=>exact .bH a h1 h2 ih
abbrev VR(P:TB)(π:Ren):Sem D_->Sem D_->Prop:=aC P π (λv v'=>v'=val π v)
abbrev ER(P:TB)(π:Ren){α:Type}:Sem α->Sem α->Prop:=aC P π (λv v'=>v'=v)
abbrev AR(P:TB)(π:Ren):Sem J_->Sem J_->Prop:=aC P π (λv v'=>v'=addr π v)
structure Ok(P:TB)(π:Ren):Prop where
 inj:∀a b,π.b a=π.b b->a=b
 fix:∀g,g<P.globals.size+1->π.b g=g
 zero:∀t i z,P.info? t=A_ i->i.zero=A_ z->val π z=z
 fs:∀f,π.fs f->π.f f=f
 ms:∀n,π.ms n->π.m n=n
 aYq:∀t i m f q,P.info? t=A_ i->m∈i.methods->π.ms m.name->m.func=A_ (f,q)->π.fs f
def FR(π:Ren)(s s':Bool):Prop:=(π.asym=E_->s'=s)/\(s'=G_->s=G_)
@[simp] theorem addr_add (a:J_) (n:Nat):addr π (a.add n)=(addr π a).add n:=by unfold Addr.add addr;split<;>rfl
@[simp] theorem gB (k n):val π (.int k n)=.int k n:=by simp[val]
@[simp] theorem iq (b):val π (.bool b)=.bool b:=by simp[val]
@[simp] theorem jP (k n):val π (.float k n)=.float k n:=by simp[val]
@[simp] theorem jO (k n m):val π (.complex k n m)=.complex k n m:=by simp[val]
@[simp] theorem jB (s):val π (.string s)=.string s:=by simp[val]
@[simp] theorem dI (a):val π (.pointer a)=.pointer (a.map (addr π)):=by simp[val]
@[simp] theorem gD (a l c):val π (.slice a l c)=.slice (a.map (addr π)) l c:=by simp[val]
@[simp] theorem gT (r):val π (.map r)=.map (r.map π.b):=by simp[val]
@[simp] theorem iY (r):val π (.chan r)=.chan (r.map π.b):=by simp[val]
@[simp] theorem gM (g a c):val π (.func g a c)=.func (fn π g) (vals π a) (vals π c):=by simp[val,vals]
@[simp] theorem fM (t v):val π (.iface t v)=.iface t (val π v):=by simp[val]
@[simp] theorem fq (c):val π (.agg c)=.agg (vals π c):=by simp[val,vals]
@[simp] theorem gN (c):val π (.tuple c)=.tuple (vals π c):=by simp[val,vals]
@[simp] theorem jQ:val π .nilFunc=.nilFunc:=by simp[val]
@[simp] theorem iZ:val π .nilIface=.nilIface:=by simp[val]
def vS:(∀k n,val π (.int k n)=.int k n)/\(∀b,val π (.bool b)=.bool b)/\(∀k n,val π (.float k n)=.float k n)/\(∀k n m,val π (.complex k n m)=.complex k n m)/\(∀s,val π (.string s)=.string s)/\(∀a,val π (.pointer a)=.pointer (a.map (addr π)))/\(∀a l c,val π (.slice a l c)=.slice (a.map (addr π)) l c)/\(∀r,val π (.map r)=.map (r.map π.b))/\(∀r,val π (.chan r)=.chan (r.map π.b))/\(∀g a c,val π (.func g a c)=.func (fn π g) (vals π a) (vals π c))/\(∀t v,val π (.iface t v)=.iface t (val π v))/\(∀c,val π (.agg c)=.agg (vals π c))/\(∀c,val π (.tuple c)=.tuple (vals π c))/\val π .nilFunc=.nilFunc/\val π .nilIface=.nilIface/\(∀a,(A_ a).map (addr π)=A_ (addr π a))/\(B_:Option J_).map (addr π)=B_/\(∀b,(A_ b).map π.b=A_ (π.b b))/\(B_:Option Nat).map π.b=B_:=by simp
@[simp] theorem vG (a):(vals π a).size=a.size:=by simp[vals]
@[simp] theorem Px (a v):vals π (a.push v)=(vals π a).push (val π v):=by simp[vals]
@[simp] theorem uH (a b):vals π (a++b)=vals π a++vals π b:=by simp[vals]
@[simp] theorem qF:vals π #[]=#[]:=by simp[vals]
@[simp] theorem iw (a:Array D_) (i:Nat):(vals π a)[i]? = a[i]?.map (val π):=by simp[vals]
@[simp] theorem Pw (a:Array D_) (i j:Nat):vals π (a.extract i j)=(vals π a).extract i j:=by simp[vals]
@[simp] theorem rC (a:Array D_):(vals π a).toList=a.toList.map (val π):=by simp[vals]
@[simp] theorem JD (a:Array D_) (i v):vals π (a.setIfInBounds i v)=(vals π a).setIfInBounds i (val π v):=by simp[vals,Array.map_setIfInBounds]
@[simp] theorem rQ (v:D_):(val π v).cells=vals π v.cells:=by cases v<;>simp[Value.cells,vals]
def Av(v):vals π #[v]=#[val π v]:=by simp[vals]
def iV{f:TB->Sem α}{f':TB->Sem β}(h:aC P π A (f P) (f' P)):aC P π A (program >>= f) (program >>= f'):=.program h
def av{a:α}{b:β}(h:A a b):aC P π A (pure a:Sem α) (pure b:Sem β):=.pure h
def aD{s:String}:aC P π A (stuck s:Sem α) (stuck s:Sem β):=.halt rfl
def EP(h:kV π u=u:=by rfl)(hn:sw (.unsupported u)=G_:=by rfl):aC P π A (unsupported u:Sem α) (unsupported u:Sem β):=by
 have:=aC.halt (P:=P) (π:=π) (A:=A) hn;simp only[halt,h]at this;exact this
def uh{v':D_}(h:v'=val π v):aC P π A (goPanic v:Sem α) (goPanic v':Sem β):=by subst h;exact .halt rfl
def OY{s:String}:aC P π A (throw s:Sem α) (throw s:Sem β):=.halt rfl
def zX{a:J_}:VR P π (load a m) (load (addr π a) m):=.load λ_=>.pure rfl
def bGk{a:J_}:ER P π (store a v m) (store (addr π a) (val π v) m):=.store (.pure rfl)
def oh{r:Nat}(h:π.gh r=E_):ER P π (shape r) (shape (π.b r)):=.shape h λ_=>.pure rfl
def wO{a:J_}(h:π.gh a.block=E_):aC P π (FR π) (frozen a) (frozen (addr π a)):=.frozen h λ_ _ h1 h2=>.pure ⟨h1,h2⟩
def FR.cases{s s':Bool}(h:FR π s s'):s'=s\/(π.asym=G_/\s=G_/\s'=E_):=by
 cases e:π.asym
 ·exact .inl (h.1 e)
 ·cases s<;>cases s'<;>simp_all [FR]
def Gu{a:J_}{n:Nat}(h:π.gh a.block=E_):ER P π (freeze a n) (freeze (addr π a) n):=.freeze h (.pure rfl)
def kM{r:Nat}:aC P π (λo a=>a=obj π o) (getObj r) (getObj (π.b r)):=.getObj λ_ _=>.pure rfl
def qD{r:Nat}(hn:np o=G_:=by rfl):ER P π (setObj r o) (setObj (π.b r) (obj π o)):=.setObj hn (.pure rfl)
def aFd(hn:np o=G_:=by rfl):aC P π (λr r'=>r'=π.b r/\π.gh r=E_) (newObj o) (newObj (obj π o)):=.new hn λ_ h=>.pure ⟨rfl,h⟩
def DY(hn:np o=G_:=by rfl):aC P π (λr r'=>r'=π.b r) (newObj o) (newObj (obj π o)):=(aFd hn).mono λ_ _ h=>h.1
def mg{q:UD}:ER P π (choose q) (choose q):=.choose λ_=>.pure rfl
def aEy{m:Mark}(h:pJ m=G_:=by rfl):ER P π (Go.mark m) (Go.mark m):=.mark h (.pure rfl)
def Fy{n:Nat}:ER P π (askRoom n) (askRoom n):=by unfold askRoom;split;exact aEy;exact av rfl
def Po:aC P π (λi a=>a=i/\P.info? t=A_ i) (typeInfo t) (typeInfo t):=by
 unfold typeInfo;refine iV ?_;split
 ·exact av ⟨rfl,by assumption⟩
 ·exact aD
def bV:ER P π (underlying t) (underlying t):=by
 unfold underlying;refine iV ?_;split
 ·exact av rfl
 ·exact aD
def kC:ER P π (Go.sizeOf t) (Go.sizeOf t):=by
 unfold Go.sizeOf;exact aC.bind' Po λa b h=>by obtain⟨rfl,_⟩:=h;exact av rfl
def Ay(H:Ok P π):VR P π (zeroValue t) (zeroValue t):=by
 unfold zeroValue;refine aC.bind' Po λa b h=>?_
 obtain⟨rfl,h⟩:=h;split
 ·next z hz=>exact av (H.zero t _ z h hz).symm
 ·exact EP
def GU:ER P π (isAgg t) (isAgg t):=by
 unfold isAgg;refine aC.bind' bV λa b h=>?_
 subst h;split<;>exact av rfl
def aXr(a:J_)(n:Nat):∀(i:Nat) (b:Array D_),aC P π (λv v'=>v'=vals π v) (loadCellsFrom a i n b) (loadCellsFrom (addr π a) i n (vals π b)):=by
 induction n with
 |zero=>intro i b;exact av rfl
 |succ n ih=>
  intro i b;unfold loadCellsFrom;refine aC.bind' (by rw[<-addr_add];exact zX) λv v' h=>?_
  subst h;rw[<-Px];exact ih _ _
def Hq{a:J_}{n:Nat}:aC P π (λv v'=>v'=vals π v) (loadCells a n) (loadCells (addr π a) n):=by
 have:=aXr (P:=P) (π:=π) a n 0 #[]
 rwa[qF]at this
def OM(a:J_)(vs:List D_):∀(i:Nat),ER P π (storeCells a vs i) (storeCells (addr π a) (vs.map (val π)) i):=by
 induction vs with
 |nil=>intro i;exact av rfl
 |cons v vs ih=>
  intro i;unfold storeCells;refine aC.bind' (by rw[<-addr_add];exact bGk) λ_ _ _=>ih _
def rZ{a:J_}:VR P π (loadVar t a) (loadVar t (addr π a)):=by
 unfold loadVar;refine aC.bind' GU λx y h=>?_
 subst h;split
 ·refine aC.bind' kC λx y h=>?_
  subst h;refine aC.bind' Hq λx y h=>?_
  subst h;exact av s7
 ·exact zX
def aB{s s':Sem α}{f:α->Sem γ}{f':α->Sem β}(h:ER P π s s')(hk:∀a,aC P π B (f a) (f' a)):aC P π B (s >>= f) (s' >>= f'):=
 aC.bind' h λa b e=>by subst e;exact hk _
def cK{s s':Sem D_}{f:D_->Sem γ}{f':D_->Sem β}(h:VR P π s s')(hk:∀a,aC P π B (f a) (f' (val π a))):aC P π B (s >>= f) (s' >>= f'):=
 aC.bind' h λa b e=>by subst e;exact hk _
def fA{s s':Sem J_}{f:J_->Sem γ}{f':J_->Sem β}(h:AR P π s s')(hk:∀a,aC P π B (f a) (f' (addr π a))):aC P π B (s >>= f) (s' >>= f'):=
 aC.bind' h λa b e=>by subst e;exact hk _
def uN{s s':Sem Nat}{f:Nat->Sem γ}{f':Nat->Sem β}(h:aC P π (λr r'=>r'=π.b r) s s')(hk:∀a,aC P π B (f a) (f' (π.b a))):aC P π B (s >>= f) (s' >>= f'):=
 aC.bind' h λa b e=>by subst e;exact hk _
def kH{s s':Sem Obj}{f:Obj->Sem γ}{f':Obj->Sem β}(h:aC P π (λr r'=>r'=obj π r) s s')(hk:∀a,aC P π B (f a) (f' (obj π a))):aC P π B (s >>= f) (s' >>= f'):=
 aC.bind' h λa b e=>by subst e;exact hk _
def oP{f:TypeInfo->Sem γ}{f':TypeInfo->Sem β}(hk:∀a,P.info? t=A_ a->aC P π B (f a) (f' a)):aC P π B (typeInfo t >>= f) (typeInfo t >>= f'):=
 aC.bind' Po λa b e=>by obtain⟨rfl,e⟩:=e;exact hk _ e
def GB.bind'{s:Sem α}{f:α->Sem β}(h:GB P π s):GB P π (s >>= f):=GB.bind h
def uU{r:Nat}{k:Option (RZ×Nat)->Sem α}(hk:∀s,(π.gh r=G_->s=B_)->GB P π (k s)):GB P π (shape r >>= k):=.shape _ _ hk
def yw{a:J_}{k:Bool->Sem α}(hk:∀s,(π.gh a.block=G_->s=E_)->GB P π (k s)):GB P π (frozen a >>= k):=.frozen _ _ hk
def LU{r:Nat}{k:Obj->Sem α}(h:π.gh r=G_):GB P π (getObj r >>= k):=.gone _ _ h
def aJ4{r:Nat}(h:π.gh r=G_):GB P π (viewAt r):=uU λs a=>by rw[a h];exact LU h
def bAa{r:Nat}(h:π.gh r=G_):GB P π (numberAt r):=uU λs a=>by rw[a h];exact LU h
def aNy{r:Nat}(h:π.gh r=G_):GB P π (cellsIn r):=uU λs a=>by rw[a h];exact LU h
def Ib{a:J_}(h:π.gh a.block=G_):GB P π (noView a):=(aJ4 h).bind'
def aFm{a:J_}(h:π.gh b.block=G_){f:Unit->Sem α}:GB P π (noView a >>= λ_=>noView b >>= f):=by
 have c:GB P π (noView b >>= f):=(Ib h).bind';unfold noView viewAt;refine uU λs _=>?_
 cases s with
 |some s=>exact c
 |none=>
  refine .get _ _ λo _=>?_
  cases o<;>first|exact c|exact .bad _ (.kV _ rfl)
def JF{r:Nat}:aC P π (λv v'=>v'=v.map λx=>(addr π x.1,x.2)) (viewAt r) (viewAt (π.b r)):=by
 cases hg:π.gh r
 ·unfold viewAt;refine aB (oh hg) λs=>?_
  split
  ·exact av rfl
  ·refine kH kM λo=>?_
   cases o<;>exact av rfl
 ·exact .nil (π.hgh _ hg) (aJ4 hg)
def aFq{r:Nat}:aC P π (λv v'=>v'=v.map λx=>(addr π x.1,x.2)) (numberAt r) (numberAt (π.b r)):=by
 cases hg:π.gh r
 ·unfold numberAt;refine aB (oh hg) λs=>?_
  split
  ·exact av rfl
  ·refine kH kM λo=>?_
   cases o<;>exact av rfl
 ·exact .nil (π.hgh _ hg) (bAa hg)
def aNz{r:Nat}:ER P π (cellsIn r) (cellsIn (π.b r)):=by
 cases hg:π.gh r
 ·unfold cellsIn;refine aB (oh hg) λs=>?_
  split
  ·exact av rfl
  ·refine kH kM λo=>?_
   cases o<;>first|exact av rfl|exact av s7
 ·exact .nil (π.hgh _ hg) (aNy hg)
def QD{a:J_}{l:Bool}:VR P π (asNumber a l) (asNumber (addr π a) l):=by
 unfold asNumber;exact uN (DY) λr=>av (by simp[addr])
def aMq{n:J_}:aC P π (λv v'=>v'=(addr π v.1,v.2)) (behindNumber n) (behindNumber (addr π n)):=by
 unfold behindNumber;refine aC.bind' aFq λa b e=>?_
 subst e;refine av ?_;cases a<;>rfl
def Aa{a:J_}:ER P π (noView a) (noView (addr π a)):=by
 unfold noView;refine aC.bind' JF λa b e=>?_
 subst e;cases a
 ·exact av rfl
 ·exact EP
def aEx{a:J_}(h:π.gh a.block=E_):ER P π (markStringish a) (markStringish (addr π a)):=by
 unfold markStringish;refine aB (oh h) λs=>?_
 split
 ·exact Gu h
 ·exact av rfl
def uO{s s':Sem Bool}{f:Bool->Sem γ}{f':Bool->Sem β}(h:aC P π (FR π) s s')(hk:∀a a',FR π a a'->aC P π B (f a) (f' a')):aC P π B (s >>= f) (s' >>= f'):=
 aC.bind' h λa b e=>hk a b e
def FR.refl(s:Bool):FR π s s:=⟨λ_=>rfl,id⟩
def aY2{A:α->Bool->Prop}{s:Sem α}(a:J_)(b:π.asym=G_)(h:∀x,aC P π A s (pure x)):aC P π A s (shape a.block >>= λx=>match x with|some (_,n)=>frozen { block:=a.block,off:=n }|none=>pure E_):=
 .vD b λx=>by
  cases x
  ·exact h E_
  ·exact .wN b λx=>h x
def aIt{a:J_}(h0:π.gh a.block=E_):aC P π (FR π) (stringish a) (stringish (addr π a)):=by
 unfold stringish;refine uO (wO h0) λs s' h=>?_
 rcases h.cases with rfl|⟨b,rfl,rfl⟩
 ·split
  ·exact av (.refl _)
  ·refine aB (oh h0) λs=>?_
   split
   ·exact wO h0
   ·exact av (.refl _)
 ·exact aY2 (addr π a) b λx=>av ⟨λe=>(by rw[b]at e;cases e),λ_=>rfl⟩
def aEz{a:J_}(h1:π.gh a.block=E_)(h2:π.gh b.block=E_):aC P π (FR π) (mayBeOne a b) (mayBeOne (addr π a) (addr π b)):=by
 unfold mayBeOne;refine uO (aIt h1) λh c f=>uO (aIt h2) λsb d g=>?_
 refine aB (aB (oh h1) λ_=>av rfl) λx=>aB (aB (oh h2) λ_=>av rfl) λy=>av ⟨λe=>by rw[f.1 e,g.1 e],λe=>?_⟩
 revert e
 have h1:=f.2;have h2:=g.2;cases h<;>cases c<;>cases sb<;>cases d<;>cases x<;>cases y<;>simp_all
def aB6:∃t,(Question.extern "sameAddr.stringBytes" 2).cut t=0:=⟨0,rfl⟩
def aC5{s s' r r':Bool}(h:FR π s s')(g:FR π r r'){x y:Sem α}{e f:Sem β}(a:Bad x)(b:aC P π A x e)(c:aC P π A y f):
  aC P π A (if(s&& r)=G_ then x else y) (if(s'&& r')=G_ then e else f):=by
 rcases h.cases with rfl|⟨d,rfl,rfl⟩<;>rcases g.cases with rfl|⟨i,rfl,rfl⟩
 ·split
  ·exact b
  ·exact c
 ·cases s'
  ·exact c
  ·exact .bad i a
 ·cases r'
  ·exact c
  ·exact .bad d a
 ·exact .bad d a
def aHt(H:Ok P π){a:J_}:ER P π (sameAddr a b) (sameAddr (addr π a) (addr π b)):=by
 unfold sameAddr
 have h1:((addr π a).block == (addr π b).block)=(a.block == b.block):=by
  rw[Vm];simp only[beq_iff_eq];exact⟨H.inj _ _,λh=>by simp[addr,h]⟩
 have h2:a.block=b.block->((addr π a) == (addr π b))=(a == b):=by
  intro h;rw[Vm];simp only[beq_iff_eq];cases a;cases b;simp_all [addr]
 rw[h1];split
 ·next h=>exact av (h2 (by simpa using h))
 ·cases hga:π.gh a.block;rotate_left 1
  ·refine .nil (π.hgh _ hga) (yw λs f=>yw λr _=>?_);rw[f hga];exact(Ib hga).bind'
  cases hgb:π.gh b.block;rotate_left 1
  ·refine .nil (π.hgh _ hgb) (yw λs _=>yw λr e=>?_);rw[e hgb];cases s<;>exact aFm hgb
  refine uO (wO hga) λs s' h=>uO (wO hgb) λr r' c=>?_
  refine aC5 h c (.kV _ rfl) (.halt rfl) ?_;refine aB Aa λ_=>aB Aa λ_=>uO (aEz hga hgb) λs s' h=>?_
  rcases h.cases with rfl|⟨d,rfl,rfl⟩
  ·split
   ·exact aB mg λ_=>av rfl
   ·exact av rfl
  ·exact .bH d rfl aB6 (.pure rfl)
def Ja(H:Ok P π){a b:Option J_}:ER P π (samePointer a b) (samePointer (a.map (addr π)) (b.map (addr π))):=by
 cases a<;>cases b<;>first|exact aHt H|exact av rfl
def zH:ER P π (elemOf t) (elemOf t):=by
 unfold elemOf;refine aB bV λs=>?_
 split<;>first|exact av rfl|exact aD
def lM{cs:Array D_}{off:Nat}:VR P π (part t cs off) (part t (vals π cs) off):=by
 unfold part;refine aB GU λs=>?_
 split
 ·exact aB kC λs=>av s7
 ·rw[iw];cases cs[off]?
  ·exact aD
  ·exact av rfl
def Jm{a:J_}:ER P π (storeVar t a v) (storeVar t (addr π a) (val π v)):=by
 unfold storeVar;refine aB kC λs=>?_
 rw[rQ,vG,rC];split
 ·exact aD
 ·exact OM _ _ _
def yG{c:Array D_}:AR P π (newRow e c) (newRow e (vals π c)):=by
 unfold newRow;exact uN (DY) λr=>av rfl
def zZ:AR P π (newVar t v) (newVar t (val π v)):=by
 unfold newVar;rw[rQ];exact yG
def aFe(h:val π v=v):AR P π (newVar t v) (newVar t v):=by
 have:=zZ (P:=P) (π:=π) (t:=t) (v:=v);rwa[h]at this
def Pn(H:Ok P π)(t:RZ):val π (typeHandle P t)=typeHandle P t:=by
 simp[typeHandle,addr,H.fix P.globals.size o7]
def gQ(H:Ok P π){e:RuntimeError}:aC P π A (runtimePanic e:Sem α) (runtimePanic e:Sem β):=by
 unfold runtimePanic;refine iV ?_;dsimp only;cases e with
 |bounds=>exact uh (by simp[vals])
 |error=>exact uh (by simp[strVal])
 |plain=>exact uh (by simp[strVal])
 |nilDeref=>exact uh (by simp[strVal])
 |typeAssertion i c a m=>
  dsimp only;refine aB zH λt=>?_
  have b:=λt=>Pn H t
  refine fA (by cases i<;>cases c<;>exact aFe (by simp[vals,b,strVal])) λr=>?_
  exact uh s7
 |panicNil=>
  refine aB zH λt=>?_
  exact fA (by have:=zZ (P:=P) (π:=π) (t:=t) (v:=.agg #[]);simpa using this) λr=>uh s7
 |unhashable t=>exact uh (by simp[vals,Pn H])
def Rh(H:Ok P π){k x y c}:aC P π A (boundsPanic k x y c:Sem α) (boundsPanic k x y c:Sem β):=by
 unfold boundsPanic;split
 ·refine aB (aC.bind' mg λa b h=>?_) λs=>gQ H
  subst h;exact av rfl
 ·exact aB (av rfl) λs=>gQ H
def CV:ER P π (asIntOf v) (asIntOf (val π v)):=by
 cases v<;>simp only[vS,asIntOf]<;>first|exact av rfl|exact aD|skip
 next a=>cases a<;>first|exact aD|exact EP
def vX:ER P π (asInt v) (asInt (val π v)):=by
 unfold asInt;exact aB CV λ_=>av rfl
def CU:ER P π (asBool v) (asBool (val π v)):=by
 cases v<;>simp only[vS,asBool]<;>first|exact av rfl|exact aD
def aLt:aC P π (λv v'=>v'=vals π v) (asAgg v) (asAgg (val π v)):=by
 cases v<;>simp only[vS,asAgg]<;>first|exact av rfl|exact aD
def zu(H:Ok P π):AR P π (asAddr v) (asAddr (val π v)):=by
 cases v<;>simp only[vS,asAddr]<;>first|exact av rfl|exact aD|skip
 next a=>cases a<;>first|exact gQ H|exact av rfl
def iJ{B:γ->δ->Prop}{a:α}{b:β}{f:α->Sem γ}(h:aC P π B (f a) (f' b)):aC P π B ((pure a:Sem α) >>= f) ((pure b:Sem β) >>= f'):=h
def kT{B:γ->δ->Prop}{s:String}{f:α->Sem γ}:aC P π B ((stuck s:Sem α) >>= f) ((stuck s:Sem β) >>= f'):=.halt rfl
def jr{s:String}:aC P π A (unsupported (.noEntry s):Sem α) (unsupported (.noEntry s):Sem β):=.halt rfl
def lU{s:String}:aC P π A (unsupported (.unsafePointer s):Sem α) (unsupported (.unsafePointer s):Sem β):=.halt rfl
def vB{s:String}:aC P π A (unsupported (.resourceLimit s):Sem α) (unsupported (.resourceLimit s):Sem β):=.halt rfl
def Lh{s:String}:aC P π A (unsupported (.extern s):Sem α) (unsupported (.extern s):Sem β):=.halt rfl
def kg:aC P π A (unsupported .addressObserved:Sem α) (unsupported .addressObserved:Sem β):=.halt rfl
def ou(h:p:=by
 repeat'(with_reducible first
 |exact av rfl|exact aD|exact jr|exact lU|exact vB|exact Lh|exact kg|exact gQ ‹_›|exact Rh ‹_›|exact OY
 |exact qD|exact yG|exact zZ|exact rZ|exact Jm|exact lM|exact zX|exact Gu ‹_›|exact wO ‹_›
 |exact av s7
 |refine aB bV λ_=>?_
 |refine aB kC λ_=>?_
 |refine aB GU λ_=>?_
 |refine aB zH λ_=>?_
 |refine oP λ_ _=>?_
 |refine cK (Ay ‹_›) λ_=>?_
 |refine cK lM λ_=>?_
 |refine cK rZ λ_=>?_
 |refine fA (zu ‹_›) λ_=>?_
 |refine aB CV λ_=>?_
 |refine aB vX λ_=>?_
 |refine aB CU λ_=>?_
 |refine aB asString_R λ_=>?_
 |refine aB (oh ‹_›) λ_=>?_
 |refine aB mg λ_=>?_
 |refine aB Fy λ_=>?_
 |refine aB qD λ_=>?_
 |refine kH kM λ_=>?_
 |refine aB Aa λ_=>?_
 |refine aB jr λ_=>?_
 |refine aB lU λ_=>?_
 |refine aB vB λ_=>?_
 |refine aB kg λ_=>?_
 |exact kT
 |refine aB (gQ ‹_›) λ_=>?_
 |refine iJ ?_
 |refine iV ?_
 |dsimp only
 |split)):p:=h
def zA{a:J_}:ER P π (byteOf a) (byteOf (addr π a)):=by
 unfold byteOf;have:(addr π a).spot=a.spot:=rfl;rw[this];cases a.spot with
 |some s=>exact av rfl
 |none=>
  cases hg:π.gh a.block;rotate_left 1
  ·exact .nil (π.hgh _ hg) (.prog _ (Ib hg).bind')
  refine iV ?_;refine aB Aa λ_=>aB (oh hg) λ_=>?_
  have:(addr π a).off=a.off:=rfl;rw[this];exact ou
def bBp{a:J_}{c b:Nat}:AR P π (partAt a c b) (partAt (addr π a) c b):=by
 unfold partAt;refine aB zA λ_=>?_
 refine aB (zA) λ_=>av ?_
 split<;>rfl
def Lp{a:J_}{f:Field}:AR P π (fieldPlace a f) (fieldPlace (addr π a) f):=by
 unfold fieldPlace;refine aB kC λ_=>?_
 split
 ·exact bBp
 ·exact av s7
def aJ3{a:J_}{u:RZ}{n:Nat}(b:π.gh a.block=E_):ER P π (variablesAt a u n) (variablesAt (addr π a) u n):=by
 unfold variablesAt;refine iV ?_;refine aB (oh b) λ_=>?_
 have:(addr π a).off=a.off:=rfl;rw[this];exact ou
def aXq(n:Nat):∀(a:J_) (b:ByteArray),ER P π (loadBytes a b n) (loadBytes (addr π a) b n):=by
 induction n with
 |zero=>intro a b;exact av rfl
 |succ n ih=>
  intro a b;unfold loadBytes;refine cK zX λv=>?_
  cases v<;>simp only[vS]<;>try exact aD
  next k m=>cases k<;>first|exact aD|(rw[<-addr_add];exact ih _ _)
def EL:AR P π (Instr.sureAddr v) (Instr.sureAddr (val π v)):=by
 cases v<;>simp only[vS]<;>first|exact av rfl|exact aD|skip
 next a=>cases a<;>first|exact aD|exact av rfl
def aXo:VR P π (Instr.loadAt t v) (Instr.loadAt t (val π v)):=by
 unfold Instr.loadAt;exact fA EL λ_=>rZ
def bGi{a:D_}:ER P π (Instr.storeAt t a v) (Instr.storeAt t (val π a) (val π v)):=by
 unfold Instr.storeAt;exact fA EL λ_=>Jm
def aTs{s:RZ}{a:D_}{f:Nat}:VR P π (Instr.fieldAt s a f) (Instr.fieldAt s (val π a) f):=by
 unfold Instr.fieldAt;refine aB bV λ_=>?_
 split
 ·split
  ·exact fA EL λ_=>fA Lp λ_=>av s7
  ·exact aD
 ·exact aD
def aVs(H:Ok P π){i:D_}:VR P π (Instr.indexAt t x i) (Instr.indexAt t (val π x) (val π i)):=by
 unfold Instr.indexAt;refine aB CV λb=>?_
 obtain⟨k,i⟩:=b;refine aB bV λd=>?_
 cases d with
 |array len elem=>
  exact fA EL λa=>ou
 |slice elem=>
  cases x<;>simp only[vS]<;>try exact kT
  next a l c=>cases a<;>simp only[vS]<;>exact ou
 |_=>exact kT
def bFm(H:Ok P π){y:Nat}{c:BoundsCode}:ER P π (Instr.sliceBound x y c) (Instr.sliceBound (val π x) y c):=by
 unfold Instr.sliceBound;exact ou
def Jh(H:Ok P π){s:Bool}{c:Nat}:ER P π (Instr.sliceBounds s l c lo hi mx) (Instr.sliceBounds s l c (lo.map (val π)) (hi.map (val π)) (mx.map (val π))):=by
 unfold Instr.sliceBounds;cases mx<;>cases hi<;>cases lo<;>dsimp only[TF,Option.isSome]<;>repeat'(with_reducible first|exact av rfl|exact kT|refine aB (bFm H) λ_=>?_|refine iJ ?_)
def bFp(H:Ok P π):VR P π (Instr.slice t x lo hi mx) (Instr.slice t (val π x) (lo.map (val π)) (hi.map (val π)) (mx.map (val π))):=by
 unfold Instr.slice;refine aB bV λd=>?_
 cases d with
 |string=>
  cases x<;>simp only[vS]<;>first|exact aD|skip
  have h:=λl c=>Jh H (s:=E_) (l:=l) (c:=c) (lo:=lo) (hi:=hi) (mx:=B_)
  cases mx<;>dsimp only[TF,Option.isSome]<;>repeat' first|exact aB (h _ _) λ_=>av s7|split|exact ou
 |slice e=>
  cases x<;>simp only[vS]<;>try exact aD
  refine aB (Jh H) λp=>?_
  obtain⟨l,h,m⟩:=p;refine aB kC λp=>?_
  next a _ _=>exact av (by cases a<;>simp<;>split<;>simp)
 |pointer e=>
  refine fA (zu H) λa=>aB bV λd=>?_
  cases d<;>try exact aD
  refine aB (Jh H) λp=>?_
  obtain⟨l,h,m⟩:=p;exact aB kC λp=>av (by simp;split<;>simp)
 |_=>exact aD
def bFl(H:Ok P π):VR P π (Instr.sliceAt t x lo hi mx) (Instr.sliceAt t (val π x) (lo.map (val π)) (hi.map (val π)) (mx.map (val π))):=by
 unfold Instr.sliceAt;refine aB bV λd=>?_
 cases d with
 |array n e=>
  refine fA EL λa=>aB (Jh H) λp=>?_
  obtain⟨l,h,m⟩:=p;exact aB kC λp=>av (by simp;split<;>simp)
 |_=>exact bFp H
def aLh(H:Ok P π):VR P π (Instr.alloc t G_ (.tuple #[])) (Instr.alloc t G_ (.tuple #[])):=by
 unfold Instr.alloc;exact cK (Ay H) λz=>fA zZ λa=>av s7
def aNd:VR P π (Instr.box t v) (Instr.box t (val π v)):=by
 unfold Instr.box;exact fA zZ λa=>av s7
def aTu(off:Nat)(l:List D_):∀(k:Nat) (cs:Array D_),
  (l.zipIdx k).foldl (λcs (c:D_×Nat)=>cs.setIfInBounds (off+c.2) (val π c.1)) (vals π cs)=vals π ((l.zipIdx k).foldl (λcs (c:D_×Nat)=>cs.setIfInBounds (off+c.2) c.1) cs):=by
 induction l with
 |nil=>intro k cs;rfl
 |cons v l ih=>intro k cs;simp only[List.zipIdx_cons,U_];rw[<-JD];exact ih _ _
def Bv(place:Nat->Option (Nat×Nat))(a:List (Nat×D_)):∀cells:Array D_,
  Zv place (vals π cells) (a.map λp=>(p.1,val π p.2))=(Zv place cells a).map (vals π):=by
 induction a with
 |nil=>intro cells;rfl
 |cons p a ih=>
  intro cells;obtain⟨i,v⟩:=p;simp only[RY,Zv];split
  ·rfl
  ·next off size _=>
   simp only[rQ,vG];split
   ·rfl
   ·rw[<-ih]
    congr 1
    have h:=aTu (π:=π) off v.cells.toList 0 cells;rw[<-Yd,<-Yd,Array.toList_zipIdx,Array.toList_zipIdx,rC,List.zipIdx_map,List.foldl_map];exact h
def aGi(a:Array (Nat×D_)):(a.map λp=>(p.1,val π p.2)).toList=a.toList.map λp=>(p.1,val π p.2):=by simp
def bE0(s:Sem α):s.bind Sem.pure=s:=by
 induction s with
 |pure=>rfl
 |halt=>rfl
 |store m a v k ih=>simp only[ZB,ih]
 |freeze a n k ih=>simp only[ZB,ih]
 |setObj r o k ih=>simp only[ZB,ih]
 |mark m k ih=>simp only[ZB,ih]
 |frozen a k ih=>simp only[ZB];congr 1;funext x;exact ih x
 |_=>simp only[ZB];congr 1;funext x;simp_all
def bEz(x:Sem α)(f:α->Sem β)(g:β->Sem γ):(x.bind f).bind g=x.bind λa=>(f a).bind g:=by
 induction x with
 |pure=>rfl
 |halt=>rfl
 |store m a v k ih=>simp only[ZB,ih]
 |freeze a n k ih=>simp only[ZB,ih]
 |setObj r o k ih=>simp only[ZB,ih]
 |mark m k ih=>simp only[ZB,ih]
 |frozen a k ih=>simp only[ZB];congr 1;funext x;exact ih x
 |_=>simp only[ZB];congr 1;funext x;simp_all
theorem lmS:LawfulMonad Sem:=LawfulMonad.mk' Sem (λx=>bE0 x) (λ_ _=>rfl) (λx f g=>bEz x f g)
def aYe(f:α->Sem β)(h:∀a,ER P π (f a) (f a))(l:List α):ER P π (l.mapM f) (l.mapM f):=by
 induction l with
 |nil=>exact av rfl
 |cons a l ih=>
  have:=lmS;rw[List.mapM_cons];exact aB (h a) λ_=>aB ih λ_=>av rfl
def aNg(H:Ok P π){c:Array (Nat×D_)}:VR P π (Instr.build t c) (Instr.build t (c.map λp=>(p.1,val π p.2))):=by
 unfold Instr.build;refine cK (Ay H) λz=>aB bV λd=>?_
 rw[aGi,rQ];cases d with
 |struct fs=>
  refine aB (by have:=lmS;rw[Array.mapM_eq_mapM_toList];exact aC.bind' (aYe _ (λa=>aB kC λ_=>av rfl) _) λa b e=>by subst e;exact av rfl) λf=>?_
  rw[Bv];cases Zv _ z.cells c.toList
  ·exact aD
  ·exact av s7
 |array n e=>
  refine aB kC λs=>?_
  rw[Bv];cases Zv _ z.cells c.toList
  ·exact aD
  ·exact av s7
 |_=>exact aD
def xH(z:Array D_)(a:vals π z=z)(n:Nat):vals π ((Array.range n).map (z[· % z.size]!))=(Array.range n).map (z[· % z.size]!):=by
 unfold vals;rw[Vt];apply Tw;intro i _;show val π z[i % z.size]! = z[i % z.size]!
 by_cases h:i % z.size<z.size
 ·rw[getElem!_pos z _ h];have e:(vals π z)[i % z.size]? = z[i % z.size]? :=by rw[a]
  rw[iw,Array.getElem?_eq_getElem h]at e
  simpa using e
 ·rw[getElem!_neg z _ h];exact iq _
def CY(H:Ok P π){f:D_->Sem γ}{f':D_->Sem β}(hk:∀z,val π z=z->aC P π B (f z) (f' z)):aC P π B (zeroValue t >>= f) (zeroValue t >>= f'):=by
 refine aC.bind' (A:=λz c=>c=z/\val π z=z) ?_ λa b e=>by obtain⟨rfl,e⟩:=e;exact hk _ e
 unfold zeroValue;refine oP λi hi=>?_
 split
 ·next z hz=>exact av ⟨rfl,H.zero t _ z hi hz⟩
 ·exact vB
def aNf(H:Ok P π){len:Nat}{b:Array (Nat×D_)}:VR P π (Instr.buildSlice t len b) (Instr.buildSlice t len (b.map λp=>(p.1,val π p.2))):=by
 unfold Instr.buildSlice;refine aB bV λd=>?_
 cases d<;>try exact aD
 next elem=>
 dsimp only;refine aB kC λsize=>?_
 rw[aGi];split
 ·refine aB vB λ_=>?_
  split
  ·refine iJ ?_;rw[<-xH _ qF,Bv,xH _ qF];cases Zv _ _ b.toList
   ·exact aD
   ·exact fA yG λa=>av s7
  ·refine CY H λz c=>iJ ?_
   have c:=(rQ (π:=π) z).symm.trans (RJ Value.cells c);rw[<-xH _ c,Bv,xH _ c];cases Zv _ _ b.toList
   ·exact aD
   ·exact fA yG λa=>av s7
 ·split
  ·refine iJ ?_;rw[<-xH _ qF,Bv,xH _ qF];cases Zv _ _ b.toList
   ·exact aD
   ·exact fA yG λa=>av s7
  ·refine CY H λz c=>iJ ?_
   have c:=(rQ (π:=π) z).symm.trans (RJ Value.cells c);rw[<-xH _ c,Bv,xH _ c];cases Zv _ _ b.toList
   ·exact aD
   ·exact fA yG λa=>av s7
def aTc:VR P π (Instr.extract v i) (Instr.extract (val π v) i):=by
 unfold Instr.extract;cases v<;>simp only[vS]<;>try exact aD
 next vs'=>rw[iw];cases vs'[i]?<;>first|exact aD|exact av rfl
def aTt:VR P π (Instr.field t v i) (Instr.field t (val π v) i):=by
 unfold Instr.field;refine aB bV λd=>?_
 cases d<;>try exact aD
 dsimp only;split
 ·refine aC.bind' aLt λa b e=>?_
  subst e;exact lM
 ·exact aD
def aVv(H:Ok P π){i:D_}:VR P π (Instr.index t x i) (Instr.index t (val π x) (val π i)):=by
 unfold Instr.index;refine aB CV λa=>?_
 obtain⟨k,i⟩:=a;refine aB bV λd=>?_
 cases d with
 |array len elem=>cases x<;>simp only[vS]<;>exact ou
 |string=>cases x<;>simp only[vS]<;>exact ou
 |_=>exact aD
def aYa:VR P π (ZV t x) (ZV t (val π x)):=by
 unfold ZV;refine aB bV λd=>?_
 cases d<;>first|exact aD|exact av s7
def aYb{x:Option D_}:VR P π (Instr.makeMap t x) (Instr.makeMap t (x.map (val π))):=by
 unfold Instr.makeMap;have h:VR P π (do pure (.map (A_ (<-newObj (.map #[] 0))))) (do pure (.map (A_ (<-newObj (.map #[] 0))))):=uN (by have:=DY (P:=P) (π:=π) (o:=.map #[] 0);simpa[obj]using this) λr=>av s7
 cases x<;>dsimp only[TF]
 ·exact h
 ·refine aB bV λd=>?_
  cases d<;>try exact kT
  exact aB vX λ_=>h
def bC9:VR P π (Instr.range t x) (Instr.range t (val π x)):=by
 unfold Instr.range;refine aB bV λd=>?_
 have h:∀o:Obj,np o=G_->VR P π (do pure (.pointer (A_ ⟨<-newObj o,0,B_⟩))) (do pure (.pointer (A_ ⟨<-newObj (obj π o),0,B_⟩))):=λo hn=>uN (DY hn) λr=>av (by simp[addr])
 cases d with
 |string=>
  cases x<;>simp only[vS]<;>try exact kT
  next s=>exact iJ (h (.stringIter s 0) rfl)
 |map k e=>
  cases x<;>simp only[vS]<;>try exact kT
  next r=>
   cases r<;>dsimp only[TF]
   ·exact iJ (h (.mapIter B_ 0 #[] 0) rfl)
   ·refine kH kM λo=>?_
    cases o<;>try exact kT
    next m es c=>exact iJ (h (.mapIter (A_ m) c #[] c) rfl)
 |_=>exact kT
def aB2(p:MapEntry->Bool)(hp:∀e,p (entry π e)=p e)(es:Array MapEntry):(es.map (entry π)).find? p=(es.find? p).map (entry π):=by
 rw[<-Array.find?_toList,<-Array.find?_toList,Array.toList_map,List.find?_map]
 congr 1
 congr 1
 funext e;exact hp e
def aSs:VR P π (Instr.entry v) (Instr.entry (val π v)):=by
 unfold Instr.entry;cases v<;>simp only[vS]<;>try exact aD
 next a=>
 cases a<;>dsimp only[TF]
 ·exact aD
 next a=>
 obtain⟨r,off,b⟩:=a;cases off<;>simp only[addr]<;>try exact aD
 refine kH kM λo=>?_
 cases o<;>try exact aD
 next m since seen stepped=>
 cases m<;>try exact aD
 next m=>
 simp only[obj,TF];split
 ·refine kH kM λo=>?_
  cases o<;>try exact aD
  next es clock=>
  simp only[obj];split
  ·exact aB jr λ_=>by
    rw[aB2 _ (λe=>rfl)];cases Array.find? _ es<;>first|exact jr|exact av (by simp[vals,entry])
  ·rw[aB2 _ (λe=>rfl)];cases Array.find? _ es<;>first|exact jr|exact av (by simp[vals,entry])
 ·exact aD
def bHt(H:Ok P π){u:RZ}{ok:Bool}:VR P π (YG x t u ok) (YG (val π x) t u ok):=by
 unfold YG
 have c:∀a b m,VR P π (if ok then do pure (.tuple #[<-zeroValue u,.bool E_])else runtimePanic (.typeAssertion a b u m)) (if ok then do pure (.tuple #[<-zeroValue u,.bool E_])else runtimePanic (.typeAssertion a b u m)):=by
  intro a b m;split
  ·exact CY H λz f=>av (by simp[vals,f])
  ·exact gQ H
 have e:∀v,VR P π (pure (if ok then .tuple #[v,.bool G_]else v)) (pure (if ok then .tuple #[val π v,.bool G_]else val π v)):=by
  intro v;exact av (by split<;>simp[vals])
 refine aB bV λd=>?_
 cases d with
 |interface want=>
  cases x<;>simp only[vS]<;>first|exact aD|exact c _ _ _|skip
  next t v=>
  refine oP λi _=>?_
  split
  ·have:=e (.iface t v);simpa using this
  ·exact c _ _ _
 |_=>
  cases x<;>simp only[vS]<;>first|exact aD|exact c _ _ _|skip
  all_goals(split<;>first|exact e _|exact c _ _ _)
def Bc{s s':Sem Loop}{f:Loop->Sem γ}{f':Loop->Sem β}(h:aC P π (λr r'=>r'=loop π r) s s')(hk:∀a,aC P π B (f a) (f' (loop π a))):aC P π B (s >>= f) (s' >>= f'):=
 aC.bind' h λa b e=>by subst e;exact hk _
def Bw:aC P π (λr r'=>r'=loop π r) (Instr.getLoop l) (Instr.getLoop (π.b l)):=by
 unfold Instr.getLoop;refine kH kM λo=>?_
 cases o<;>first|exact aD|exact av rfl
def BO{a:Obj}(h:a=obj π o)(hn:np o=G_:=by rfl):aC P π (λr r'=>r'=π.b r) (newObj o) (newObj a):=by subst h;exact DY hn
def Je{r:Nat}{a:Obj}(h:a=obj π o)(hn:np o=G_:=by rfl):ER P π (setObj r o) (setObj (π.b r) a):=by subst h;exact qD hn
def aSq{fn:XG}{tmps:Array D_}{ps:Array Tmp}{a b:Code}{ar:Option Nat}(j:π.f fn=fn)(g:π.c a=a)(i:π.c b=b):
  aC P π (λx k=>k=(π.b x.1,x.2.map (deferred π))/\∀d∈x.2,∃r,d={ target:=.collected r,args:=#[] }) (Yp fn tmps ps a b ar) (Yp fn (vals π tmps) ps a b (ar.map π.b)):=by
 unfold Yp;have h:∀l:Loop,loop π l={ l with pending:=l.pending.map π.c,fn:=π.f l.fn,tmps:=vals π l.tmps,assign:=π.c l.assign,body:=π.c l.body,defers:=π.b l.defers }:=λ_=>rfl
 cases ar<;>dsimp only[TF]
 ·refine uN (BO rfl) λr=>iJ (uN (BO ?_) λr=>av ⟨by simp[deferred,target],λd e=>by simp at e;exact⟨_,e⟩⟩)
  simp only[obj,h,j,g,i,TF]
 ·refine Bc Bw λl=>iJ (uN (BO ?_) λr=>av ⟨rfl,λd e=>by cases e⟩)
  simp only[obj,h,j,g,i,TF]
def aUk(l:List (Tmp×D_)):∀tmps:Array D_,(l.map λp=>(p.1,val π p.2)).foldl (λ(tmps:Array D_) (x:Tmp×D_)=>tmps.setIfInBounds x.1 x.2) (vals π tmps)=vals π (l.foldl (λ(tmps:Array D_) (x:Tmp×D_)=>tmps.setIfInBounds x.1 x.2) tmps):=by
 induction l with
 |nil=>intro t;rfl
 |cons x l ih=>intro t;simp only[RY,U_];rw[<-JD];exact ih _
def bJf(ps:Array Tmp)(args:Array D_):(ps.zip (vals π args)).toList=(ps.zip args).toList.map λp=>(p.1,val π p.2):=by
 rw[Array.toList_zip,Array.toList_zip,rC,List.zip_map_right];rfl
def aUj(ps:Array Tmp)(args tmps:Array D_):(ps.zip (vals π args)).foldl (λ(tmps:Array D_) (x:Tmp×D_)=>tmps.setIfInBounds x.1 x.2) (vals π tmps)=vals π ((ps.zip args).foldl (λ(tmps:Array D_) (x:Tmp×D_)=>tmps.setIfInBounds x.1 x.2) tmps):=by
 rw[<-Yd,bJf,aUk,<-Yd]
def bI7:aC P π (nH π) (Instr.yield l args) (Instr.yield (π.b l) (vals π args)):=by
 unfold Instr.yield;refine Bc Bw λr=>?_
 rw[vG];have e:(loop π r).params=r.params:=rfl;rw[e];split
 ·exact kT
 ·refine av ?_;have:=nH.round (π:=π) l r.fn ((r.params.zip args).foldl (λ(tmps:Array D_) (x:Tmp×D_)=>tmps.setIfInBounds x.1 x.2) r.tmps) r.assign r.body;rw[<-aUj]at this;exact this
def QL(H:Ok P π):ER P π (Instr.beginRound l) (Instr.beginRound (π.b l)):=by
 unfold Instr.beginRound;refine Bc Bw λr=>aB (qD) λ_=>?_
 have e:(loop π r).state=r.state:=rfl;rw[e];cases r.state<;>first|exact av rfl|exact gQ H
def aBm{j:Option Code}(a:j.map π.c=j):VR P π (Xv l j) (Xv (π.b l) j):=by
 unfold Xv;refine Bc Bw λr=>?_
 have h:∀l:Loop,loop π l={ l with pending:=l.pending.map π.c,fn:=π.f l.fn,tmps:=vals π l.tmps,assign:=π.c l.assign,body:=π.c l.body,defers:=π.b l.defers }:=λ_=>rfl
 exact aB (Je (by simp only[obj,h,a])) λ_=>av s7
def aBk(H:Ok P π):aC P π (λx a=>a=x.map π.c) (Instr.endLoop l) (Instr.endLoop (π.b l)):=by
 unfold Instr.endLoop;refine Bc Bw λr=>?_
 have e:(loop π r).state=r.state:=rfl;rw[e];split
 ·exact aB (gQ H) λ_=>aB (qD) λ_=>av rfl
 ·exact aB (qD) λ_=>av rfl
def aPk{d:Deferred}:ER P π (YV l d) (YV (π.b l) (deferred π d)):=by
 unfold YV;refine Bc Bw λr=>kH (kM) λo=>?_
 cases o<;>try exact aD
 next cs=>
 cases cs
 ·exact OY
 ·next ds=>exact qD
def aI7:aC P π (λx a=>a=x.map (deferred π)) (YW l) (YW (π.b l)):=by
 unfold YW;refine kH kM λo=>?_
 cases o<;>try exact aD
 next cs=>
 cases cs
 ·exact aD
 ·next ds=>exact aB (qD) λ_=>av rfl
def addr_eq(H:Ok P π)(a b:J_):(addr π a == addr π b)=(a == b):=by
 rw[Vm];simp only[beq_iff_eq];constructor
 ·intro h;obtain⟨x,y,z⟩:=a;obtain⟨c,d,e⟩:=b;simp only[addr,Addr.mk.injEq]at h⊢;exact⟨H.inj _ _ h.1,h.2⟩
 ·rintro rfl;rfl
def nat_eq(H:Ok P π)(a b:Nat):(π.b a == π.b b)=(a == b):=by
 rw[Vm];simp only[beq_iff_eq];exact⟨H.inj _ _,λh=>by rw[h]⟩
def Nw(H:Ok P π)(a b:Option Nat):(a.map π.b == b.map π.b)=(a == b):=by
 cases a<;>cases b<;>simp[nat_eq H]<;>exact nat_eq H _ _
def aCm(l:List α)(f g:α->β->Sem (ForInStep β))(h:∀a b,ER P π (f a b) (g a b)):∀b,ER P π (forIn l b f) (forIn l b g):=by
 induction l with
 |nil=>intro b;simp only[List.forIn_nil];exact av rfl
 |cons a l ih=>
  intro b;simp only[List.forIn_cons];refine aB (h a b) λs=>?_
  cases s<;>dsimp only
  ·exact av rfl
  ·exact ih _
def Gs(l:Array α)(f g:α->β->Sem (ForInStep β))(h:∀a b,ER P π (f a b) (g a b))(b:β):ER P π (forIn l b f) (forIn l b g):=by
 rw[<-YQ,<-YQ];exact aCm _ _ _ h b
def LD(n:Nat)(f g:Nat->β->Sem (ForInStep β))(h:∀a b,ER P π (f a b) (g a b))(b:β):ER P π (forIn [:n] b f) (forIn [:n] b g):=by
 simp only[Std.Legacy.Range.forIn_eq_forIn_range'];exact aCm _ _ _ h b
def aEt(H:Ok P π)(b:Nat):π.b b<P.globals.size↔b<P.globals.size:=by
 constructor
 ·intro h;have e:=H.inj _ _ (H.fix (π.b b) o7);rw[<-e];exact h
 ·intro h;rw[H.fix b o7];exact h
def xS{n:J_}{f:J_×Bool->Sem γ}{f':J_×Bool->Sem β}(hk:∀a l,aC P π B (f (a,l)) (f' (addr π a,l))):aC P π B (behindNumber n >>= f) (behindNumber (addr π n) >>= f'):=
 aC.bind' aMq λa b e=>by subst e;obtain⟨a,l⟩:=a;exact hk _ _
def aSv(H:Ok P π):∀(d:Nat) (t:RZ) (x y:D_),ER P π (Op.equalIn d t x y) (Op.equalIn d t (val π x) (val π y)):=by
 intro d
 induction d with
 |zero=>intro t x y;unfold Op.equalIn;exact vB
 |succ d ih=>
  intro t x y;unfold Op.equalIn;refine aB bV λu=>?_
  cases u with
  |pointer e=>
   rcases x with b|⟨k,n⟩|⟨k,n⟩|⟨k,n,m⟩|s|(_|a)|⟨_|a,l,c⟩|(_|r)|(_|r)|⟨g,f,c⟩|_|⟨z,v⟩|_|c|c<;>rcases y with b|⟨h,j⟩|⟨h,j⟩|⟨h,j,B⟩|s'|(_|b)|⟨_|b,A,o⟩|(_|r')|(_|r')|⟨g',f',o⟩|_|⟨C,w⟩|_|d'|d'<;>simp only[vS]<;>first|with_reducible exact aD|with_reducible exact av rfl|skip
   refine aB kC λs=>?_
   rw[addr_eq H];split
   ·exact aHt H
   ·exact ou
  |interface ms=>
   rcases x with b|⟨k,n⟩|⟨k,n⟩|⟨k,n,m⟩|s|(_|a)|⟨_|a,l,c⟩|(_|r)|(_|r)|⟨g,f,c⟩|_|⟨z,v⟩|_|c|c<;>rcases y with b|⟨h,j⟩|⟨h,j⟩|⟨h,j,B⟩|s'|(_|b)|⟨_|b,A,o⟩|(_|r')|(_|r')|⟨g',f',o⟩|_|⟨C,w⟩|_|d'|d'<;>simp only[vS]<;>first|with_reducible exact aD|with_reducible exact av rfl|skip
   split
   ·exact av rfl
   ·refine oP λi _=>?_
    split
    ·refine iV ?_;refine iV ?_
     have D:ER P π ((do runtimePanic (.error ("comparing uncomparable type " ++(←typeStr z)))):Sem Bool) ((do runtimePanic (.error ("comparing uncomparable type " ++(←typeStr z)))):Sem Bool):=by
      refine aB (?_:ER P π (typeStr z) (typeStr z)) λ_=>gQ H
      unfold typeStr;refine oP λ_ _=>?_
      dsimp only;split
      ·exact jr
      ·exact av rfl
     split
     ·exact aB jr λ_=>D
     ·exact D
    ·exact ih _ _ _
  |struct fs=>
   cases x<;>cases y<;>simp only[vS]<;>first|with_reducible exact aD|skip
   next d1 d2=>
   refine iV ?_;split
   ·exact aB jr λ_=>by
     refine aB (Gs _ _ _ (λf s=>?_) _) λs=>?_
     ·split
      ·refine cK lM λ_=>cK lM λ_=>aB (ih _ _ _) λ_=>?_
       split<;>exact av rfl
      ·exact av rfl
     ·split<;>exact av rfl
   ·
    refine aB (Gs _ _ _ (λf s=>?_) _) λs=>?_
    ·split
     ·refine cK lM λ_=>cK lM λ_=>aB (ih _ _ _) λ_=>?_
      split<;>exact av rfl
     ·exact av rfl
    ·split<;>exact av rfl
  |array n e=>
   cases x<;>cases y<;>simp only[vS]<;>first|with_reducible exact aD|skip
   refine aB kC λm=>?_
   refine aB (LD _ _ _ (λf s=>?_) _) λs=>?_
   ·refine cK lM λ_=>cK lM λ_=>aB (ih _ _ _) λ_=>?_
    split<;>exact av rfl
   ·split<;>exact av rfl
  |int k=>
   cases x with
   |int k1 n1=>
    cases y with
    |int k2 n2=>simp only[vS];split<;>first|exact aD|exact av rfl
    |pointer q=>rcases n1 with(_|n)|n<;>cases q<;>simp only[vS]<;>first|exact kg|exact av rfl
    |_=>simp only[vS];exact aD
   |pointer p=>
    cases y with
    |int k2 n2=>rcases n2 with(_|n)|n<;>cases p<;>simp only[vS]<;>first|exact kg|exact av rfl
    |pointer q=>
     cases p<;>cases q<;>simp only[vS]<;>first|exact kg|skip
     refine xS λa l=>xS λb A=>?_
     refine iV ?_;have e1:((addr π a).block == (addr π b).block)=(a.block == b.block):=nat_eq H _ _;have e2:decide ((addr π a).block<P.globals.size)=decide (a.block<P.globals.size):=decide_eq_decide.2 (aEt H a.block);dsimp only;rw[e1,e2,addr_eq H];split
     ·exact aB zA λ_=>aB zA λ_=>av rfl
     ·refine oP λi _=>?_
      split
      ·split<;>first|exact av rfl|exact kg
      ·exact kg
    |_=>cases p<;>simp only[vS]<;>exact kg
   |_=>cases y<;>simp only[vS]<;>first|exact aD|exact kg
  |chan c e=>
   cases x<;>cases y<;>simp only[vS]<;>first|with_reducible exact aD|skip
   exact av (Nw H _ _)
  |unsafePointer=>
   rcases x with b|⟨k,n⟩|⟨k,n⟩|⟨k,n,m⟩|s|(_|a)|⟨_|a,l,c⟩|(_|r)|(_|r)|⟨g,f,c⟩|_|⟨z,v⟩|_|c|c<;>rcases y with b|⟨h,j⟩|⟨h,j⟩|⟨h,j,B⟩|s'|(_|b)|⟨_|b,A,o⟩|(_|r')|(_|r')|⟨g',f',o⟩|_|⟨C,w⟩|_|d'|d'<;>simp only[vS]<;>first|with_reducible exact aD|exact Ja H (a:=B_) (b:=B_)|exact Ja H (a:=B_) (b:=A_ _)|exact Ja H (a:=A_ _) (b:=B_)|exact Ja H (a:=A_ _) (b:=A_ _)
  |bool|string|func _ _ _|float _|complex _|slice _|map _ _=>
   rcases x with b|⟨k,n⟩|⟨k,n⟩|⟨k,n,m⟩|s|(_|a)|⟨_|a,l,c⟩|(_|r)|(_|r)|⟨g,f,c⟩|_|⟨z,v⟩|_|c|c<;>rcases y with b|⟨h,j⟩|⟨h,j⟩|⟨h,j,B⟩|s'|(_|b)|⟨_|b,A,o⟩|(_|r')|(_|r')|⟨g',f',o⟩|_|⟨C,w⟩|_|d'|d'<;>simp only[vS]<;>first|with_reducible exact aD|with_reducible exact av rfl|(split<;>first|with_reducible exact aD|with_reducible exact av rfl)
  |named _ _|tuple _|invalid=>exact aD
def aBn(H:Ok P π){y:D_}:ER P π (Op.equal t x y) (Op.equal t (val π x) (val π y)):=aSv H _ _ _ _
def aJq:ER P π (typeStr t) (typeStr t):=by
 unfold typeStr;refine oP λ_ _=>?_
 dsimp only;split
 ·exact jr
 ·exact av rfl
def Dj(H:Ok P π)(a:Bool):∀(n:Nat) (t:RZ) (v:D_),ER P π (Instr.checkKey a n t v) (Instr.checkKey a n t (val π v)):=by
 intro n
 induction n with
 |zero=>intro t v;unfold Instr.checkKey;exact vB
 |succ n ih=>
  intro t v;unfold Instr.checkKey;refine aB bV λu=>?_
  cases u with
  |interface ms=>
   cases v<;>simp only[vS]<;>first|with_reducible exact aD|with_reducible exact av trivial|skip
   next d x=>
   refine oP λi _=>?_
   have hi:=aC.mono (ih d x) λ_ _ _=>trivial
   split
   ·split
    ·exact aB (gQ H) λ_=>aB aJq λ_=>aB (gQ H) λ_=>hi
    ·exact aB aJq λ_=>aB (gQ H) λ_=>hi
   ·exact hi
  |array len elem=>
   cases v<;>simp only[vS]<;>try with_reducible exact aD
   refine aB (LD _ _ _ (λi s=>?_) _) λs=>av trivial
   exact aB kC λm=>cK lM λ_=>aB (ih _ _) λ_=>av rfl
  |struct fs=>
   cases v<;>simp only[vS]<;>try with_reducible exact aD
   refine aB (Gs _ _ _ (λi s=>?_) _) λs=>av trivial
   split
   ·exact cK lM λ_=>aB (ih _ _) λ_=>av rfl
   ·exact av rfl
  |_=>exact av rfl
def bEh(d:TypeDesc)(x y:D_):Instr.sameNow d (val π x) (val π y)=Instr.sameNow d x y:=by
 cases d<;>cases x<;>cases y<;>simp[Instr.sameNow]
def aTy(d:TypeDesc)(k:D_)(es:List MapEntry):∀i,Instr.findNow d (val π k) (es.map (entry π)) i=(Instr.findNow d k es i).map (·.map λx=>(x.1,val π x.2)):=by
 induction es with
 |nil=>intro i;rfl
 |cons e es ih=>
  intro i;simp only[RY,Instr.findNow,entry,bEh];split
  ·rfl
  ·exact ih _
  ·rfl
def aTx(H:Ok P π)(t:RZ)(k:D_)(es:List MapEntry):∀i,aC P π (λr r'=>r'=r.map λx=>(x.1,val π x.2)) (Instr.findAsking t k es i) (Instr.findAsking t (val π k) (es.map (entry π)) i):=by
 induction es with
 |nil=>intro i;exact av rfl
 |cons e es ih=>
  intro i;simp only[RY,Instr.findAsking,entry];refine aB (aBn H) λb=>?_
  split
  ·exact av rfl
  ·exact ih _
def Gj(H:Ok P π){k:D_}{es:List MapEntry}:aC P π (λr r'=>r'=r.map λx=>(x.1,val π x.2)) (Instr.findKey t k es) (Instr.findKey t (val π k) (es.map (entry π))):=by
 unfold Instr.findKey;refine aB bV λd=>?_
 rw[aTy];cases Instr.findNow d k es 0
 ·exact aTx H _ _ _ _
 ·exact av rfl
def FD{s s':Sem (Option (Nat×D_))}{f:Option (Nat×D_)->Sem γ}{f':Option (Nat×D_)->Sem β}(h:aC P π (λr r'=>r'=r.map λx=>(x.1,val π x.2)) s s')(hk:∀a,aC P π B (f a) (f' (a.map λx=>(x.1,val π x.2)))):aC P π B (s >>= f) (s' >>= f'):=
 aC.bind' h λa b e=>by subst e;exact hk _
def Lc(es:Array MapEntry):(es.map (entry π)).toList=es.toList.map (entry π):=by simp
def aXu(H:Ok P π){i:D_}{ok:Bool}:VR P π (Vx t x i ok) (Vx t (val π x) (val π i) ok):=by
 unfold Vx;refine aB bV λd=>?_
 cases d<;>try exact aD
 next key elem=>
 cases x<;>(try rw[gT])<;>try(simp only[vS];exact kT)
 next r=>
 cases r
 ·refine iJ ?_;refine aB (Dj H _ _ _ _) λ_=>FD (Gj H) λr=>?_
  cases r
  ·refine CY H λz a=>iJ ?_
   exact av (by split<;>simp[vals,a])
  ·refine iJ ?_;exact av (by split<;>simp[vals])
 next r=>
 rw[Si];refine kH kM λo=>?_
 cases o<;>try exact kT
 next es c=>
 rw[show obj π (.map es c)=.map (es.map (entry π)) c from rfl];dsimp only;refine iJ ?_;rw[show(es.map (entry π)).isEmpty=es.isEmpty by simp[Array.isEmpty],Lc];refine aB (Dj H _ _ _ _) λ_=>FD (Gj H) λr=>?_
 cases r
 ·refine CY H λz a=>iJ ?_
  exact av (by split<;>simp[vals,a])
 ·refine iJ ?_;exact av (by split<;>simp[vals])
def bEg(H:Ok P π):∀(n:Nat) (x y:D_),Instr.sameBits n (val π x) (val π y)=Instr.sameBits n x y:=by
 intro n
 induction n with
 |zero=>
      intro x y;cases x<;>cases y<;>simp only[vS]<;>simp only[Instr.sameBits]<;>first|rfl|exact Nw H _ _|skip
      next a b=>cases a<;>cases b<;>simp[addr_eq H]<;>exact addr_eq H _ _
 |succ n ih=>
  intro x y;cases x<;>cases y<;>simp only[vS]<;>simp only[Instr.sameBits]<;>first|rfl|exact Nw H _ _|(rw[ih])|skip
  ·next a b=>cases a<;>cases b<;>simp[addr_eq H]<;>exact addr_eq H _ _
  ·next a b=>
   rw[vG,vG,rC,rC,List.zip_map,List.all_map]
   congr 1
   congr 1
   funext p
   exact ih _ _
def aWo(H:Ok P π){y:D_}:VR P π (Instr.keyThatStays x y) (Instr.keyThatStays (val π x) (val π y)):=by
 unfold Instr.keyThatStays;rw[bEg H];split
 ·exact av rfl
 ·exact aB mg λ_=>av (by split<;>rfl)
def aSz(es:Array MapEntry)(i:Nat):(es.map (entry π))[i]? = (es[i]?).map (entry π):=by simp
def aWp(es:Array MapEntry)(i:Nat)(k:D_):((((es.map (entry π))[i]?).map (·.key)).getD (val π k))=val π (((es[i]?).map (·.key)).getD k):=by
 rw[aSz];cases es[i]?<;>rfl
def aY1(es:Array MapEntry)(i:Nat)(f g:MapEntry->MapEntry)(h:∀e,g (entry π e)=entry π (f e)):(es.map (entry π)).modify i g=(es.modify i f).map (entry π):=by
 apply Array.ext_getElem?;intro j;simp only[Array.getElem?_modify,VL];split<;>cases es[j]?<;>simp[h]
def aEw(H:Ok P π){m k:D_}:ER P π (Xf t m k v) (Xf t (val π m) (val π k) (val π v)):=by
 unfold Xf;refine aB bV λd=>?_
 cases d<;>first|exact aD|skip
 cases m<;>(try rw[gT])<;>first|(simp only[vS];exact aD)|skip
 next r=>
 cases r
 ·exact gQ H
 next r=>
 rw[Si];dsimp only;refine kH kM λo=>?_
 cases o<;>first|exact aD|skip
 next es clock=>
 rw[show obj π (.map es clock)=.map (es.map (entry π)) clock from rfl];dsimp only;rw[Lc];refine aB (Dj H _ _ _ _) λ_=>?_
 refine FD (Gj H) λq=>?_
 cases q
 ·rw[XH];dsimp only;have:=qD (P:=P) (π:=π) (r:=r) (o:=.map (es.push { key:=k,val:=v,born:=clock }) (clock+1));simp only[obj,Array.map_push,entry]at this;exact this
 ·next q=>
  obtain⟨i,w⟩:=q;rw[Si];dsimp only;rw[aWp];refine cK (aWo H) λkey=>?_
  rw[aY1 es i (λe=>{ e with key:=key,val:=v }) _ (λe=>rfl)];exact qD
def MB:ER P π (Builtin.lenOf v) (Builtin.lenOf (val π v)):=by
 cases v<;>simp only[vS]<;>first|exact aD|exact av rfl
def Rp(a:Array UInt8):vals π (a.map λb=>Value.int .u8 b.toNat)=a.map λb=>Value.int .u8 b.toNat:=by
 unfold vals;rw[Vt];congr 1;funext b;simp
def Dt{s n:Nat}:aC P π (λa a'=>a'=vals π a) (YT s n v) (YT s n (val π v)):=by
 cases v<;>simp only[vS]<;>try exact aD
 ·exact av (Rp _).symm
 ·next a _ _=>
         cases a
         ·exact av qF.symm
         ·exact Hq
def aOn:VR P π (Builtin.copy_ ts t args) (Builtin.copy_ ts t (vals π args)):=by
 unfold Builtin.copy_;rw[iw,iw];cases ts[0]?<;>cases args[0]?<;>cases args[1]?<;>dsimp only[TF]<;>try exact aD
 next dT dst src=>
 refine aB bV λd=>?_
 cases d<;>try exact aD
 cases dst<;>(try rw[gD])<;>try(simp only[vS];exact aD)
 next base dl dc=>
 refine aB MB λn=>aB kC λb=>aC.bind' Dt λcs a e=>?_
 subst e;rw[rC];cases base<;>dsimp only[TF]
 ·exact av (by simp[goInt])
 ·exact aB (OM _ _ _) λ_=>av (by simp[goInt])
def aXf:VR P π (Builtin.len_ ts t args) (Builtin.len_ ts t (vals π args)):=by
 unfold Builtin.len_;rw[iw];cases ts[0]?<;>cases args[0]?<;>dsimp only[TF]<;>try exact aD
 next dT x=>
 refine aB bV λd=>?_
 cases d with
 |pointer arr=>
  refine aB bV λd=>?_
  cases d<;>first|exact aD|exact av (by simp[goInt])
 |array n e=>exact av (by simp[goInt])
 |string=>cases x<;>simp only[vS]<;>first|exact aD|exact av (by simp[goInt])
 |slice e=>cases x<;>simp only[vS]<;>first|exact aD|exact av (by simp[goInt])
 |map k e=>
  cases x<;>simp only[vS]<;>try exact aD
  next r=>
  cases r<;>dsimp only[TF]
  ·exact av (by simp[goInt])
  ·refine kH kM λo=>?_
   cases o<;>first|exact aD|exact av (by simp[goInt])
 |chan k e=>
  cases x<;>simp only[vS]<;>try exact aD
  next r=>
  cases r<;>dsimp only[TF]
  ·exact av (by simp[goInt])
  ·refine kH kM λo=>?_
   cases o<;>first|exact aD|exact av (by simp[goInt])
 |_=>exact aD
def Mc{a:J_}{n:Nat}(b:π.gh a.block=E_):ER P π (YU a n) (YU (addr π a) n):=by
 unfold YU;refine aB (oh b) λs=>?_
 have h1:(addr π a).spot=a.spot:=rfl;have h2:(addr π a).off=a.off:=rfl;rw[h1,h2];split<;>exact av rfl
def aNw:VR P π (Builtin.cap_ ts t args) (Builtin.cap_ ts t (vals π args)):=by
 unfold Builtin.cap_;rw[iw];cases ts[0]?<;>cases args[0]?<;>dsimp only[TF]<;>try exact aD
 next dT x=>
 refine aB bV λd=>?_
 cases d with
 |pointer arr=>
  refine aB bV λd=>?_
  cases d<;>first|exact aD|exact av (by simp[goInt])
 |array n e=>exact av (by simp[goInt])
 |slice e=>cases x<;>simp only[vS]<;>first|exact aD|exact av (by simp[goInt])
 |chan k e=>
  cases x<;>simp only[vS]<;>try exact aD
  next r=>
  cases r<;>dsimp only[TF]
  ·exact av (by simp[goInt])
  ·refine kH kM λo=>?_
   cases o<;>first|exact aD|exact av (by simp[goInt])
 |_=>exact aD
def aPn(H:Ok P π):VR P π (Builtin.delete_ ts t args) (Builtin.delete_ ts t (vals π args)):=by
 unfold Builtin.delete_;rw[iw,iw];cases ts[0]?<;>cases args[0]?<;>cases args[1]?<;>dsimp only[TF]<;>try exact aD
 next mt m k=>
 refine aB bV λd=>?_
 cases d<;>try exact aD
 cases m<;>(try rw[gT])<;>try(simp only[vS];exact kT)
 next r=>
 cases r
 ·exact aB (Dj H _ _ _ _) λ_=>av s7
 next r=>
 rw[Si];refine kH kM λo=>?_
 cases o<;>first|exact kT|skip
 next es clock=>
 rw[show obj π (.map es clock)=.map (es.map (entry π)) clock from rfl];dsimp only;rw[Lc,show(es.map (entry π)).isEmpty=es.isEmpty by simp[Array.isEmpty]];refine aB (Dj H _ _ _ _) λ_=>?_
 refine FD (Gj H) λq=>?_
 cases q
 ·rw[XH];dsimp only;exact aB (qD (o:=.map es clock)) λ_=>av s7
 ·next q=>
  obtain⟨i,w⟩:=q;rw[Si];dsimp only;have:=qD (P:=P) (π:=π) (r:=r) (o:=.map (es.eraseIdxIfInBounds i) clock)
  refine aB (by
   have e:(es.map (entry π)).eraseIdxIfInBounds i=(es.eraseIdxIfInBounds i).map (entry π):=by
    unfold Array.eraseIdxIfInBounds;simp only[Array.size_map];split
    ·apply YA;simp[List.eraseIdx_eq_take_drop_succ,List.map_take,List.map_drop]
    ·rfl
   rw[e];exact this) λ_=>av s7
def mD[Decidable c]{x b:Sem Unit}{r:Sem γ}(d:ER P π x b)(a:aC P π B r r'):aC P π B (if c then x >>= λ_=>r else r) (if c then b >>= λ_=>r' else r'):=by
 split
 ·exact aB d λ_=>a
 ·exact a
def Lr(p q:MapEntry->Bool)(hp:∀e,q (entry π e)=p e)(es:Array MapEntry):(es.map (entry π)).filter q=(es.filter p).map (entry π):=by
 apply YA;simp only[Array.toList_filter,Array.toList_map,List.filter_map]
 congr 1
 congr 1
 funext e;exact hp e
def aLf(p q:MapEntry->Bool)(hp:∀e,q (entry π e)=p e)(es:Array MapEntry):(es.map (entry π)).all q=es.all p:=by
 rw[Array.all_map];congr 1;funext e;exact hp e
def aZm(v:D_)(b:Bool)(t:RZ):VR P π (Instr.next v b t) (Instr.next (val π v) b t):=by
 unfold Instr.next;cases v<;>(try rw[dI])<;>first|(simp only[vS];exact aD)|skip
 next a=>
 cases a
 ·exact aD
 next a=>
 obtain⟨r,off,g⟩:=a;rw[Si];cases off;rotate_left 1
 ·exact aD
 simp only[addr];refine kH kM λo=>?_
 cases o<;>first|exact aD|skip
 ·next s pos=>
  cases b
  ·exact aD
  ·simp only[obj];split
   ·exact aB (Je rfl) λ_=>av (by simp[vals,goInt])
   ·exact av (by simp[vals])
 ·next m since seen last=>
  cases b;rotate_left 1
  ·cases m<;>exact aD
  cases m
  ·exact av (by simp[vals])
  next m=>
  simp only[obj,Si];refine kH kM λo=>?_
  cases o<;>first|exact aD|skip
  next es clock=>
  rw[show obj π (.map es clock)=.map (es.map (entry π)) clock from rfl];dsimp only;rw[show(es.map (entry π)).isEmpty=es.isEmpty by simp[Array.isEmpty],aLf (λe=>decide (e.born≥last)) _ (λe=>rfl) es];have e1:=Lr (π:=π) (λe=>!seen.contains e.born) (λe=>!seen.contains e.born) (λe=>rfl) es;rw[e1];generalize es.filter (λe=>!seen.contains e.born)=left;have e2:=Lr (π:=π) (λe=>decide (e.born<since)) (λe=>decide (e.born<since)) (λe=>rfl) left;have d:=Lr (π:=π) (λe=>decide (e.born≥since)) (λe=>decide (e.born≥since)) (λe=>rfl) left;rw[e2,d];generalize left.filter (λe=>decide (e.born<since))=old;generalize left.filter (λe=>decide (e.born≥since))=new;rw[show(old.map (entry π)).isEmpty=old.isEmpty by simp[Array.isEmpty]]
  have f:((if old.isEmpty then #[B_]else #[])++(old.map (entry π)++new.map (entry π)).map A_)=((if old.isEmpty then #[B_]else #[])++(old++new).map A_:Array (Option MapEntry)).map (λx=>x.map (entry π)):=by
   have e:∀l:Array MapEntry,(l.map (entry π)).map A_=(l.map A_).map (λx=>x.map (entry π)):=λl=>by rw[Vt,Vt];rfl
   rw[<-Array.map_append,e,Array.map_append];split<;>simp
  rw[f];generalize((if old.isEmpty then #[B_]else #[])++(old++new).map A_)=c;refine mD jr ?_;rw[Array.size_map];refine aB mg λi=>?_
  rw[VL];rcases c[i]? with _|(_|e)
  ·exact aD
  ·exact av (by simp[vals])
  ·exact aB (Je rfl) λ_=>av (by simp[vals,entry])
def aKp(z:Array D_)(n:Nat):(Array.range n).map ((vals π z)[· % (vals π z).size]!)=vals π ((Array.range n).map (z[· % z.size]!)):=by
 unfold vals;rw[Vt];apply Tw;intro i _;simp only[Array.size_map,Function.comp]
 by_cases h:i % z.size<z.size
 ·rw[getElem!_pos z _ h,getElem!_pos _ _ (by simpa using h)];simp
 ·rw[getElem!_neg z _ h,getElem!_neg _ _ (by simpa using h)];exact(iq _).symm
def BP{c a:Array D_}(h:a=vals π c):AR P π (newRow e c) (newRow e a):=by subst h;exact yG
def aYd(H:Ok P π){l c:D_}:VR P π (T_ t l c) (T_ t (val π l) (val π c)):=by
 unfold T_;refine aB bV λd=>?_
 cases d<;>try exact aD
 refine aB vX λl=>aB vX λc=>oP λi _=>?_
 (repeat'(with_reducible first|exact av rfl|exact aD|exact jr|exact lU|exact vB|exact Lh|exact kg|exact gQ ‹_›|exact Rh ‹_›|exact OY|exact qD|exact yG|exact zZ|exact rZ|exact Jm|exact lM|exact zX|exact Gu ‹_›|exact wO ‹_›|exact av s7|refine aB bV λ_=>?_|refine aB kC λ_=>?_|refine aB GU λ_=>?_|refine aB zH λ_=>?_|refine oP λ_ _=>?_|refine cK (Ay ‹_›) λ_=>?_|refine cK lM λ_=>?_|refine cK rZ λ_=>?_|refine fA (zu ‹_›) λ_=>?_|refine aB CV λ_=>?_|refine aB vX λ_=>?_|refine aB CU λ_=>?_|refine aB asString_R λ_=>?_|refine aB (oh ‹_›) λ_=>?_|refine aB mg λ_=>?_|refine aB Fy λ_=>?_|refine aB qD λ_=>?_|refine kH kM λ_=>?_|refine aB Aa λ_=>?_|refine aB jr λ_=>?_|refine aB lU λ_=>?_|refine aB vB λ_=>?_|refine aB kg λ_=>?_|exact kT|refine aB (gQ ‹_›) λ_=>?_|refine iJ ?_|refine iV ?_|dsimp only|split))
 all_goals first|exact fA (BP (xH #[] qF _).symm) λ_=>av s7|exact fA (BP (by rw[rQ];exact aKp _ _)) λ_=>av s7
def zy{s s':Sem (Array D_)}{f:Array D_->Sem γ}{f':Array D_->Sem β}(h:aC P π (λr r'=>r'=vals π r) s s')(hk:∀a,aC P π B (f a) (f' (vals π a))):aC P π B (s >>= f) (s' >>= f'):=
 aC.bind' h λa b e=>by subst e;exact hk _
def OO{a:J_}{l b:List D_}(h:b=l.map (val π)):ER P π (storeCells a l i) (storeCells (addr π a) b i):=by subst h;exact OM _ _ _
def JL(z:Array D_)(n:Nat):Un (vals π z) n=vals π (Un z n):=by
 unfold Un;have:=aKp (π:=π) z (n*z.size);rw[vG]at this⊢;exact this
def SA(π:Ren)(s s':Bool):Prop:=π.asym=E_->s'=s
def QU{s s':Sem Bool}{f:Bool->Sem γ}{f':Bool->Sem β}(h:aC P π (SA π) s s')(hk:∀a a',SA π a a'->aC P π B (f a) (f' a')):aC P π B (s >>= f) (s' >>= f'):=
 aC.bind' h λa b e=>hk a b e
def aLo(H:Ok P π)(c:Option J_)(b:J_):(c.map (addr π)).any (·.block == (addr π b).block)=c.any (·.block == b.block):=by
 cases c with
 |none=>rfl
 |some a=>exact nat_eq H a.block b.block
def Dx(a:¬π.lax=G_)(r:Nat):π.gh r=E_:=by
 cases h:π.gh r
 ·rfl
 ·exact absurd (π.hgh r h) a
inductive As {α:Type}:Sem α->Prop
 |pure (a):As (.pure a)
 |shape (r k):(∀s,As (k s))->As (.shape r k)
 |frozen (a k):(∀s,As (k s))->As (.frozen a k)
def As.bind{s:Sem α}{f:α->Sem β}(h:As s)(b:∀a,As (f a)):As (s >>= f):=by
 induction h with
 |pure a=>exact b a
 |shape r k _ ih=>exact .shape _ _ ih
 |frozen a k _ ih=>exact .frozen _ _ ih
def As.gb{s:Sem α}{f:α->Sem β}(h:As s)(b:∀a,GB P π (f a)):GB P π (s >>= f):=by
 induction h with
 |pure a=>exact b a
 |shape r k _ ih=>exact .shape _ _ λs _=>ih s
 |frozen a k _ ih=>exact .frozen _ _ λs _=>ih s
def aC9(a:J_)(n:Nat):As (YU a n):=.shape _ _ λs=>by cases s<;>exact .pure _
def bE9(size e n:Nat)(d:Option J_)(x:D_):As (XY size e n d x):=by
 unfold XY
 have f:∀c:Bool,As (if(!c)=G_ then pure G_ else match x with
   | .slice (A_ b) _ _=>do pure (!(<-YU b (n*size)) || d.any λa=>a.block == b.block)
   |_=>pure E_:Sem Bool):=λc=>by
  split
  ·exact .pure _
  ·split
   ·exact(aC9 _ _).bind λ_=>.pure _
   ·exact .pure _
 cases d with
 |none=>exact f G_
 |some a=>exact(aC9 _ _).bind λ_=>As.bind (.frozen _ _ λ_=>.pure _) λ_=>f _
def aE0(H:Ok P π)(g:¬π.lax=G_){size d n:Nat}{c:Option J_}:aC P π (SA π) (XY size d n c x) (XY size d n (c.map (addr π)) (val π x)):=by
 unfold XY;have f:=λb=>aLo H c b
 have no:∀{a b:Bool},π.asym=G_->SA π a b:=λe i=>by rw[e]at i;cases i
 cases c with
 |none=>
  dsimp only[TF];refine iJ ?_;simp only[Va,SE,if_false]
  ·cases x<;>simp only[vS]<;>first|exact av (λ_=>rfl)|skip
   next b _ _=>
   cases b<;>dsimp only[TF]
   ·exact av λ_=>rfl
   ·exact aB (Mc (Dx g _)) λr=>av λ_=>by first|rw[f]|(have:=f ‹_›;simp only[TF]at this;rw[this])
 |some a=>
  dsimp only[TF];refine aB (Mc (Dx g _)) λr=>?_
  rw[<-addr_add];refine uO (wO (Dx g _)) λs s' h=>iJ ?_
  rcases h.cases with rfl|⟨e,rfl,rfl⟩
  ·split
   ·exact av λ_=>rfl
   cases x<;>simp only[vS]<;>first|exact av (λ_=>rfl)|skip
   next b _ _=>
   cases b<;>dsimp only[TF]
   ·exact av λ_=>rfl
   ·exact aB (Mc (Dx g _)) λr=>av λ_=>by first|rw[f]|(have:=f ‹_›;simp only[TF]at this;rw[this])
  ·cases r
   ·exact av λ_=>rfl
   ·simp only[VO,Va,if_true,SE,if_false,Bool.and_true,Bool.and_false];cases x<;>simp only[vS]<;>try exact av (no e)
    next b _ _=>
    cases b<;>dsimp only[TF]
    ·exact av (no e)
    ·exact .vD e λx=>by cases x<;>exact .pure (no e)
def aTz{s n:Nat}{b:Option J_}{c:Nat}:aC P π (λa a'=>a'=vals π a) (YT s n (.slice b l c)) (YT s n (.slice (b.map (addr π)) l c)):=by
 have:=Dt (P:=P) (π:=π) (s:=s) (n:=n) (v:=.slice b l c)
 rwa[gD]at this
def aP0{a:Bool}(h:SA π a a'){m:Mark}(c:pJ m=G_:=by rfl)(b:kV π u=u:=by rfl)(hk:sw (.unsupported u)=G_:=by rfl):
  aC P π A (if(!a)=G_ then Go.mark m >>= λ_=>unsupported u else unsupported u) (if(!a')=G_ then Go.mark m >>= λ_=>unsupported u else unsupported u):=by
 cases e:π.asym with
 |false=>
  rw[h e];split
  ·exact aC.mark c (EP b hk)
  ·exact EP b hk
 |true=>
  split
  ·exact .bad e (.mark _ _ (.kV _ hk))
  ·exact .bad e (.kV _ hk)
def aAx{a:Bool}(h:SA π a a'){s:String}:
  aC P π A (if(!a)=G_ then Go.mark .noRoom >>= λ_=>unsupported (.resourceLimit s)else unsupported (.resourceLimit s)) (if(!a')=G_ then Go.mark .noRoom >>= λ_=>unsupported (.resourceLimit s)else unsupported (.resourceLimit s)):=aP0 h
def aZf{a b:Array D_}{n:Nat}:AR P π (newRow e (a++b++Un z.cells n)) (newRow e (vals π a++vals π b++Un (val π z).cells n)):=
 BP (by rw[rQ,JL,uH,uH])
def aZg{a:Array D_}{n:Nat}:AR P π (newRow e (a++#[]++Un z.cells n)) (newRow e (vals π a++#[]++Un (val π z).cells n)):=
 BP (by rw[rQ,JL,uH,uH,qF])
def bGh{a:J_}{k:Nat}{l:Array D_}:ER P π (storeCells (a.add k) l.toList i) (storeCells ((addr π a).add k) (vals π l).toList i):=by
 rw[<-addr_add];exact OO s7
def bGj{a:J_}{k:Nat}:ER P π (storeCells (a.add k) (#[]:Array D_).toList i) (storeCells ((addr π a).add k) (#[]:Array D_).toList i):=by
 rw[<-addr_add];exact OO s7
def bI9(H:Ok P π){n:Nat}:aC P π (λr r'=>r'=vals π r) (zeroValue e >>= λz=>pure (Un z.cells n)) (zeroValue e >>= λz=>pure (Un z.cells n)):=
 cK (Ay H) λz=>av (by rw[rQ,JL])
def GH(H:Ok P π)[Decidable c]{e:RuntimeError}{r:Sem γ}(a:aC P π B r r'):aC P π B (if c then(runtimePanic e:Sem Unit) >>= λ_=>r else r) (if c then(runtimePanic e:Sem Unit) >>= λ_=>r' else r'):=mD (gQ H) a
def aVa(H:Ok P π)[Decidable c]{q:UD}{e:Nat->RuntimeError}{r:Sem γ}(b:aC P π B r r'):aC P π B (if c then choose q >>= λa=>(runtimePanic (e a):Sem Unit) >>= λ_=>r else r) (if c then choose q >>= λa=>(runtimePanic (e a):Sem Unit) >>= λ_=>r' else r'):=by
 split
 ·exact aB mg λ_=>aB (gQ H) λ_=>b
 ·exact b
def aVb(H:Ok P π)[Decidable c]{a b n:Nat}{o:Option J_}{s:String}{r:Sem γ}(f:aC P π B r r'):
  aC P π B (if c then(XY a b n o x >>= λd=>if(!d)=G_ then Go.mark .noRoom >>= λ_=>(unsupported (.resourceLimit s):Sem Unit)else unsupported (.resourceLimit s)) >>= λ_=>r else r)
   (if c then(XY a b n (o.map (addr π)) (val π x) >>= λd=>if(!d)=G_ then Go.mark .noRoom >>= λ_=>(unsupported (.resourceLimit s):Sem Unit)else unsupported (.resourceLimit s)) >>= λ_=>r' else r') :=by
 by_cases e:π.lax=G_
 ·split
  ·exact .nil e (GB.bind' ((bE9 _ _ _ _ _).gb λd=>by
    split
    ·exact .bad _ (.mark _ _ (.kV _ rfl))
    ·exact .bad _ (.kV _ rfl)))
  ·exact f
 ·exact mD (QU (aE0 H e) λ_ _ h=>aAx h) f
def Cj(h:p:=by
 repeat'(with_reducible first
 |exact av rfl|exact aD|exact gQ ‹_›
 |exact av s7
 |refine aB (gQ ‹_›) λ_=>?_
 |refine oP λ_ _=>?_
 |refine aB (QU (aE0 ‹_›) λ_ _ h=>aAx h) λ_=>?_
 |refine aB mg λ_=>?_
 |refine aB Fy λ_=>?_
 |refine aB vX λ_=>?_
 |refine aB bV λ_=>?_
 |refine zy aTz λ_=>?_
 |refine zy Dt λ_=>?_
 |refine zy (bI9 ‹_›) λ_=>?_
 |refine cK (Ay ‹_›) λ_=>?_
 |refine fA aZf λ_=>?_
 |refine fA newRow4 λ_=>?_
 |refine fA aZg λ_=>?_
 |refine aB bGh λ_=>?_
 |refine aB storeZero_R λ_=>?_
 |refine aB bGj λ_=>?_
 |refine GH ‹_› ?_
 |refine aVa ‹_› ?_
 |refine aVb ‹_› ?_
 |refine iJ ?_
 |dsimp only
 |split)):p:=h
def aLq(H:Ok P π):VR P π (Builtin.append_ ts t args) (Builtin.append_ ts t (vals π args)):=by
 unfold Builtin.append_;rw[iw,iw];cases ts[0]?<;>cases args[0]?<;>cases args[1]?<;>dsimp only[TF]<;>try exact aD
 next sT s x=>
 refine aB bV λd=>?_
 cases d<;>try exact aD
 next elem=>
 cases s<;>(try rw[gD])<;>try(simp only[vS];exact aD)
 next base sLen sCap=>
 refine aB kC λsize=>?_
 cases ts[1]?
 ·dsimp only;refine iJ ?_;simp only[SE,if_false,VO,if_true];refine aB MB λn=>?_
  split
  ·refine zy Dt λ_=>?_
   cases base<;>dsimp only[TF]
   ·exact av s7
   ·exact Cj
  ·exact Cj
 ·dsimp only;refine aB bV λd=>iJ ?_
  split
  ·simp only[if_true,Va,SE,if_false];cases base<;>dsimp only[TF]
   ·exact Cj
   ·exact Cj
  ·simp only[SE,if_false,VO,if_true];refine aB MB λn=>?_
   split
   ·refine zy Dt λ_=>?_
    cases base<;>dsimp only[TF]
    ·exact av s7
    ·exact Cj
   ·exact Cj
def aN3(H:Ok P π):VR P π (Ye ts t args) (Ye ts t (vals π args)):=by
 unfold Ye;rw[iw];cases ts[0]?<;>cases args[0]?<;>dsimp only[TF]<;>try exact aD
 next t x=>
 refine aB bV λd=>?_
 cases x<;>simp only[vS]<;>try(cases d<;>exact kT)
 ·next a n c=>
  cases a<;>dsimp only[TF]
  ·exact iJ (av s7)
  ·cases n
   ·exact iJ (av s7)
   ·cases d<;>try exact kT
    exact cK (Ay H) λz=>aB (OO (by rw[rQ,JL,rC])) λ_=>av s7
 ·next r=>
  cases r<;>dsimp only[TF]
  ·exact iJ (av s7)
  ·refine kH kM λo=>?_
   cases o<;>try exact kT
   exact aB (Je (by simp[obj])) λ_=>av s7
def Jq{a:BinOp}{x y:ByteArray}:VR P π (Op.stringOp a x y) (Op.stringOp a x y):=by
 unfold Op.stringOp;cases a<;>exact ou
def aYi{y:D_}:VR P π (Builtin.max2 x y) (Builtin.max2 (val π x) (val π y)):=by
 unfold Builtin.max2;rcases x with b|⟨k,n⟩|⟨k,n⟩|⟨k,n,m⟩|s|(_|a)|⟨_|a,l,c⟩|(_|r)|(_|r)|⟨g,f,c⟩|_|⟨p,v⟩|_|c|c<;>rcases y with b|⟨e,d⟩|⟨e,d⟩|⟨e,d,j⟩|s'|(_|b)|⟨_|b,i,h⟩|(_|r')|(_|r')|⟨g',f',h⟩|_|⟨q,w⟩|_|d'|d'<;>simp only[vS]<;>first|with_reducible exact aD|with_reducible exact kg|with_reducible exact av rfl|skip
 ·exact av s7
 ·cases k.format.order n d with
  |none=>exact aB mg λ_=>av s7
  |some o=>cases o<;>exact av s7
 ·exact cK Jq λ_=>aB CU λ_=>av s7
def aYj(l:List D_):∀x:D_,VR P π (l.foldlM Builtin.max2 x) ((l.map (val π)).foldlM Builtin.max2 (val π x)):=by
 induction l with
 |nil=>intro x;exact av rfl
 |cons y l ih=>intro x;simp only[RY,YI];exact cK aYi λ_=>ih _
def aYk:VR P π (Builtin.max_ ts t args) (Builtin.max_ ts t (vals π args)):=by
 unfold Builtin.max_;rw[rC];cases args.toList
 ·exact aD
 ·exact aYj _ _
def aYv{y:D_}:VR P π (Builtin.min2 x y) (Builtin.min2 (val π x) (val π y)):=by
 unfold Builtin.min2;rcases x with b|⟨k,n⟩|⟨k,n⟩|⟨k,n,m⟩|s|(_|a)|⟨_|a,l,c⟩|(_|r)|(_|r)|⟨g,f,c⟩|_|⟨p,v⟩|_|c|c<;>rcases y with b|⟨e,d⟩|⟨e,d⟩|⟨e,d,j⟩|s'|(_|b)|⟨_|b,i,h⟩|(_|r')|(_|r')|⟨g',f',h⟩|_|⟨q,w⟩|_|d'|d'<;>simp only[vS]<;>first|with_reducible exact aD|with_reducible exact kg|with_reducible exact av rfl|skip
 ·exact av s7
 ·cases k.format.order n d with
  |none=>exact aB mg λ_=>av s7
  |some o=>cases o<;>exact av s7
 ·exact cK Jq λ_=>aB CU λ_=>av s7
def aYw(l:List D_):∀x:D_,VR P π (l.foldlM Builtin.min2 x) ((l.map (val π)).foldlM Builtin.min2 (val π x)):=by
 induction l with
 |nil=>intro x;exact av rfl
 |cons y l ih=>intro x;simp only[RY,YI];exact cK aYv λ_=>ih _
def aYx:VR P π (Builtin.min_ ts t args) (Builtin.min_ ts t (vals π args)):=by
 unfold Builtin.min_;rw[rC];cases args.toList
 ·exact aD
 ·exact aYw _ _
def aDq{a:BinOp}{k:IntKind}{x:Int}:VR P π (Op.intArith a k x y) (Op.intArith a k x y):=by
 unfold Op.intArith;cases a<;>exact ou
def aWd(H:Ok P π){a:BinOp}{k:IntKind}{x:Int}:VR P π (Op.intDiv a k x y) (Op.intDiv a k x y):=by
 unfold Op.intDiv;cases a<;>exact ou
def aDr{a:BinOp}{k:IntKind}{x:Int}:VR P π (Op.intBits a k x y) (Op.intBits a k x y):=by
 unfold Op.intBits;cases a<;>exact ou
def aDs{a:BinOp}{x:Int}:VR P π (Op.intCmp a x y) (Op.intCmp a x y):=by
 unfold Op.intCmp;cases a<;>exact ou
def bFe(H:Ok P π){a:BinOp}{k b:IntKind}{x:Int}:VR P π (Op.shift a k x b y) (Op.shift a k x b y):=by
 unfold Op.shift;cases a<;>exact ou
inductive Quiet (P:TB) {α:Type} (p:α->Prop):Sem α->Prop
 |pure (a):p a->Quiet P p (.pure a)
 |choose (q k):(∀n,Quiet P p (k n))->Quiet P p (.choose q k)
 |program (k):Quiet P p (k P)->Quiet P p (.program k)
 |stuck (s):Quiet P p (.halt (.stuck s))
 |noEntry (s):Quiet P p (.halt (.unsupported (.noEntry s)))
abbrev Q0(P:TB){α:Type}(s:Sem α):Prop:=Quiet P (λ_=>True) s
def Still(v:D_):Prop:=∀π:Ren,val π v=v
variable {s:Sem α}
def Quiet.bind{p:α->Prop}{q:β->Prop}{f:α->Sem β}(h:Quiet P p s)(b:∀a,Quiet P q (f a)):Quiet P q (s >>= f):=by
 induction h with
 |pure a _=>exact b a
 |choose q k _ ih=>exact .choose q _ ih
 |program k _ ih=>exact .program _ ih
 |stuck s=>exact .stuck s
 |noEntry s=>exact .noEntry s
def Quiet.refl{p:α->Prop}(h:Quiet P p s):aC P π (λv v'=>v'=v/\p v) s s:=by
 induction h with
 |pure a h=>exact .pure ⟨rfl,h⟩
 |choose q k _ ih=>exact .choose ih
 |program k _ ih=>exact .program ih
 |stuck s=>exact .halt rfl
 |noEntry s=>exact .halt rfl
def Quiet.still{s:Sem D_}(h:Quiet P Still s):VR P π s s:=by
 induction h with
 |pure a h=>exact .pure (h π).symm
 |choose q k _ ih=>exact .choose ih
 |program k _ ih=>exact .program ih
 |stuck s=>exact .halt rfl
 |noEntry s=>exact .halt rfl
def uo(a:α):Q0 P (pure a:Sem α):=.pure a trivial
def bCw(k:Zj)(r:Nat):Quiet P Still (pure (.float k r):Sem D_):=.pure _ λ_=>jP _ _
def II(r:Bool):Quiet P Still (pure (.bool r):Sem D_):=.pure _ λ_=>iq _
def Er(k:Zj)(r s:Nat):Quiet P Still (pure (.complex k r s):Sem D_):=.pure _ λ_=>jO _ _ _
def xg{p:α->Prop}(s:String):Quiet P p (stuck s:Sem α):=.stuck s
def NU(q:UD):Q0 P (choose q):=.choose _ _ λn=>.pure n trivial
def bCs(v:D_):Q0 P (asBool v):=by cases v<;>first|exact .pure _ trivial|exact .stuck _
def BZ(h:p:=by
 repeat'(with_reducible first
 |exact xg _|exact bCw _ _|exact II _|exact Er _ _ _|exact uo _|exact NU _|exact bCs _
 |refine Quiet.bind (p:=λ_=>True) ?_ λ_=>?_|dsimp only|split)):p:=h
def aG5(a:BinOp)(k:Zj)(x y:Nat):Quiet P Still (Op.floatArith a k x y):=by unfold Op.floatArith;exact BZ
def NY(a:BinOp)(k:Zj)(x y:Nat):Quiet P Still (Op.floatCmp a k x y):=by unfold Op.floatCmp;exact BZ
def NS(a:BinOp)(k:Zj)(x y:Nat):Q0 P (Op.Complex.arith a k x y):=by
 unfold Op.Complex.arith;refine(aG5 a k x y).bind λv=>?_;exact BZ
def NV(a:BinOp)(k:Zj)(x y:Nat):Q0 P (Op.Complex.cmp a k x y):=by
 unfold Op.Complex.cmp;refine(NY a k x y).bind λv=>?_;exact BZ
def IJ(s d:Zj)(x:Nat):Quiet P Still (Conv.floatToFloat s x d):=by unfold Conv.floatToFloat;exact BZ
def NT(s d:Zj)(x:Nat):Q0 P (Op.Complex.conv s x d):=by
 unfold Op.Complex.conv;split
 ·exact uo _
 ·refine(IJ s d x).bind λv=>?_;exact BZ
def qc7(h:p:=by
 repeat'(with_reducible first
 |exact xg _|exact II _|exact Er _ _ _|exact uo _|exact NS _ _ _ _|exact NV _ _ _ _|exact NT _ _ _
 |refine Quiet.bind (p:=λ_=>True) ?_ λ_=>?_|dsimp only|split)):p:=h
def bCu(a b c d e:Nat):Q0 P (Op.Complex.corrected a b c d e):=by
 unfold Op.Complex.corrected Op.Complex.mul Op.Complex.add Op.Complex.sub;exact qc7
def bCy(b c d e:Nat):Q0 P (Op.Complex.product b c d e):=by
 unfold Op.Complex.product Op.Complex.mul Op.Complex.add Op.Complex.sub;exact qc7
def bCz(b c d e:Nat):Q0 P (Op.Complex.quotient b c d e):=by
 unfold Op.Complex.quotient Op.Complex.mul Op.Complex.add Op.Complex.sub Op.Complex.quo
 (repeat'(with_reducible first|exact xg _|exact II _|exact Er _ _ _|exact uo _|exact NS _ _ _ _|exact NV _ _ _ _|exact NT _ _ _|refine Quiet.bind (p:=λ_=>True) ?_ λ_=>?_|dsimp only|split))
 all_goals exact bCu _ _ _ _ _
def aG2(e:BinOp)(k:Zj)(a b c d:Nat):Quiet P Still (Op.complexOp e k a b c d):=by
 unfold Op.complexOp;cases e<;>(repeat'(with_reducible first|exact xg _|exact II _|exact Er _ _ _|exact uo _|exact NS _ _ _ _|exact NV _ _ _ _|exact NT _ _ _|refine Quiet.bind (p:=λ_=>True) ?_ λ_=>?_|dsimp only|split))<;>first|exact bCy _ _ _ _|exact bCz _ _ _ _
end Go.Rn
