/- ManyWorkers -/
import Derived.Test.YtpodibeogglplaaGreatDoorVK
import Derived.DyingOn
open Array renaming replicate->UJ, forIn_toList->YQ, ext'->YA, map_map->Vt, map_congr_left->Tw, mem_append->Xi, getD_eq_getD_getElem?->VW, foldl_toList->Yd, mapM_eq_mapM_toList->Ym
open Bool renaming true->G_, false->E_, false_eq_true->SE, false_and->m_, true_and->L_
open Go renaming Program->TB, TypeId->RZ, Value->D_, Addr->J_, Operand->XO, Frame->I_, World->C_, FuncId->XG, callFunc->YK, execOp->XQ, Event->K_, Goroutine->H_, doReturn->Yy
open Go.Builtin renaming unsafeSliceData_->M_, ssaWrapNilChk_->n_
open Go.Extern.AbiNoEscape renaming same->YE
open Go.Extern.BytealgIndex renaming index->Yn
open Go.Extern.BytealgIndexByte renaming indexByte->WU
open Go.Extern.BytealgMakeNoZero renaming digits->YB, makeNoZero->WC
open Go.Extern.Bytes renaming loadBytes->o_
open Go.Extern.ReflectliteType renaming toType->Xr, ofRtype->YF, typeOf->Xt, method->Xq, elem->XL, relation->VZ, implements_->WK, assignableTo->WE, abiMethod->WX
open Go.Extern.ReflectliteValue renaming mk->Zt, zeroV->YO, unpack->VD, valueError->Vh, partsAny->Yr, parts->YN, method->VB, methodAny->WV, isNil->Xu, elem->XF, set->XM
open Go.Extern.SlicesOverlaps renaming overlaps->Wu
open Go.GStep renaming after->Xe
open Go.Op renaming operands->YP
open Go.Rn.aC renaming bind'->TS
open Go.Sem renaming runT->Tm
open Go.World renaming farStore->Wp, freeze->VY, viewStore->Wt
open List renaming map_nil->TV, map_cons->RY, mapM_cons->z_, cons_append->TP
open Nat renaming le_trans->RV, le_refl->RQ
open Option renaming map->TF, map_some->Si, some->A_, none->B_, map_none->XH
set_option linter.all false
set_option maxHeartbeats 2000000
namespace Go.Rn
variable {P:TB} {ts:Array RZ} {t:RZ} {y:D_} {b:J_} {k:IntKind} {α β:Type} {A:α->β->Prop} {v:D_} {ρ:XO->D_} {o:Oper} {p:α->Prop} {fr:I_} {c:Code} {g:Fn} {tmps:Array D_} {w:C_} {h:Halt} {w1:C_} {u:RZ} {s:Sem α} {s':Sem β} {d:Nat} {γ:Type} {Q:C_->C_->Prop} {Γ:C_->Prop} {K:C_->(C_->Prop)->Prop} {W:C_} {C cs:List I_}
def JC{π:Ren}{x:D_}:VR P π (Builtin.unsafeAdd_ ts t #[x,y]) (Builtin.unsafeAdd_ ts t #[val π x,val π y]):=by
 unfold Builtin.unsafeAdd_;cases x<;>(try rw[dI])<;>first|((first|rw[iq]|rw[gB]|rw[jP]|rw[jO]|rw[jB]|rw[dI]|rw[gD]|rw[gT]|rw[iY]|rw[gM]|rw[fM]|rw[fq]|rw[gN]|rw[jQ]|rw[iZ]);exact aD)|skip
 next a=>
 refine aB vX λn=>?_
 cases a<;>dsimp only[TF]
 ·exact ou
 ·next a=>
  split
  ·refine TS JF λv v' e=>?_
   subst e;cases v
   ·exact av s7
   ·exact lU
  ·refine mD lU ?_;cases hg:π.gh a.block;rotate_left 1
   ·exact .nil (π.hgh _ hg) (uU λs b=>by rw[b hg];exact .bad _ (.kV _ rfl))
   refine aB (oh hg) λs=>?_
   cases s
   ·exact lU
   ·next s=>
    obtain⟨e,cells⟩:=s;refine iV ?_;rw[show(addr π a).off=a.off from rfl];split
    ·exact av (by simp[addr])
    ·exact lU
def aY4{π:Ren}{x:D_}:VR P π (movedNumber t x y) (movedNumber t (val π x) (val π y)):=by
 unfold movedNumber;refine aB bV λd=>?_
 dsimp only;refine mD lU ?_;have h:=JC (P:=P) (π:=π) (ts:=#[]) (t:=t) (x:=x) (y:=y);cases x with
 |pointer a=>
  cases a with
  |none=>revert h;simp only[vS];exact λh=>h
  |some a=>
   rw[dI,Si];refine xS λa l=>?_
   refine cK (by have:=JC (P:=P) (π:=π) (ts:=#[]) (t:=t) (x:=.pointer (A_ a)) (y:=y);rwa[dI]at this) λv=>?_
   cases v<;>first|((first|rw[iq]|rw[gB]|rw[jP]|rw[jO]|rw[jB]|rw[dI]|rw[gD]|rw[gT]|rw[iY]|rw[gM]|rw[fM]|rw[fq]|rw[gN]|rw[jQ]|rw[iZ]);exact av s7)|skip
   next b=>
   rw[dI];cases b
   ·exact av s7
   ·exact QD
 |_=>revert h;simp only[vS];exact λh=>h
def aY5{π:Ren}{x:D_}:VR P π (movedPointer t x y) (movedPointer t (val π x) (val π y)):=by
 unfold movedPointer;have h:=JC (P:=P) (π:=π) (ts:=#[]) (t:=t) (x:=x) (y:=y);cases x with
 |pointer a=>
  cases a with
  |none=>revert h;simp only[vS];exact λh=>h
  |some a=>
   rw[dI,Si];dsimp only;refine TS aFq λv v' e=>?_
   subst e;have:=JC (P:=P) (π:=π) (ts:=#[]) (t:=t) (x:=.pointer (A_ a)) (y:=y);rw[dI]at this;cases v
   ·exact this
   ·exact aB kg λ_=>this
 |_=>revert h;simp only[vS];exact λh=>h
def aJn{π:Ren}(H:Ok P π){a:J_}:ER P π (Op.twoPlaces a b) (Op.twoPlaces (addr π a) (addr π b)):=by
 unfold Op.twoPlaces;refine iV ?_
 have e1:((addr π a).block != (addr π b).block)=(a.block != b.block):=by
  have:=nat_eq H a.block b.block;show(!(π.b a.block == π.b b.block))=!(a.block == b.block);rw[this]
 have e2:decide ((addr π a).block≥P.globals.size)=decide (a.block≥P.globals.size):=decide_eq_decide.2 (by have:=aEt H a.block;show π.b a.block≥_↔_;omega);rw[e1,e2];refine mD kg ?_;exact aB zA λ_=>aB zA λ_=>av rfl
def aLa{π:Ren}(H:Ok P π){a:J_}:VR P π (Op.addrSub k a b) (Op.addrSub k (addr π a) (addr π b)):=by
 unfold Op.addrSub;exact aB (aJn H) λ_=>av s7
def aK8{π:Ren}(H:Ok P π){c:BinOp}{a:J_}:VR P π (Op.addrCmp c a b) (Op.addrCmp c (addr π a) (addr π b)):=by
 unfold Op.addrCmp;refine aB (aJn H) λp=>?_
 cases c<;>first|exact av s7|exact kg
def aK9{π:Ren}{a:J_}{n:Int}:VR P π (Op.addrMod k a n) (Op.addrMod k (addr π a) n):=by
 unfold Op.addrMod;cases hg:π.gh a.block;rotate_left 1
 ·exact .nil (π.hgh _ hg) (uU λs b=>by rw[b hg];exact .bad _ (.kV _ rfl))
 refine aB (oh hg) λs=>?_
 cases s
 ·exact kg
 ·refine oP λi _=>?_
  refine mD kg ?_;exact aB zA λ_=>av s7
def aSt{π:Ren}:∀(d:Nat) (t:RZ) (x y:D_),ER P π (Op.eqGuardIn d t x y) (Op.eqGuardIn d t (val π x) (val π y)):=by
 intro d
 induction d with
 |zero=>intro t x y;exact vB
 |succ d ih=>
  intro t x y;unfold Op.eqGuardIn;refine aB bV λu=>?_
  cases u with
  |interface ms=>cases x<;>cases y<;>simp only[vS]<;>exact av rfl
  |struct fs=>
   cases x<;>cases y<;>simp only[vS]<;>try with_reducible exact av rfl
   refine aB (Gs _ _ _ (λf s=>?_) _) λs=>?_
   ·split
    ·refine cK lM λ_=>cK lM λ_=>aB (ih _ _ _) λ_=>?_
     split<;>exact av rfl
    ·exact av rfl
   ·split<;>exact av rfl
  |array n e=>
   cases x<;>cases y<;>simp only[vS]<;>try with_reducible exact av rfl
   refine aB kC λm=>aB (LD _ _ _ (λf s=>?_) _) λs=>?_
   ·refine cK lM λ_=>cK lM λ_=>aB (ih _ _ _) λ_=>?_
    split<;>exact av rfl
   ·split<;>exact av rfl
  |_=>cases x<;>cases y<;>simp only<;>exact av rfl
def lG{π:Ren}{b:Bool}{x y:Sem α}{a c:Sem β}(h1:aC P π A x a)(h2:aC P π A y c):aC P π A (if b=G_ then x else y) (if b=G_ then a else c):=by
 cases b
 ·exact h2
 ·exact h1
def aSu{π:Ren}{c:BinOp}{x y:XO}{a b:D_}:ER P π (eqGuard c t x y a b) (eqGuard c t x y (val π a) (val π b)):=by
 unfold eqGuard;have h:=aSt (P:=P) (π:=π) Op.maxDepth t a b;refine lG (av rfl) ?_
 revert h
 cases a<;>cases b<;>simp only[vS]<;>intro h<;>first|with_reducible exact av rfl|with_reducible exact av trivial|skip
 ·refine lG (av trivial) (aB h λ_=>?_);exact lG jr (av trivial)
 ·refine iV ?_;refine iV ?_;refine lG (av trivial) (aB h λ_=>?_);exact lG jr (av trivial)
def Hz{π:Ren}{a:Option J_}{n:Int}:VR P π (movedNumber t (.pointer a) (.int k n)) (movedNumber t (.pointer (a.map (addr π))) (.int k n)):=by
 have:=aY4 (P:=P) (π:=π) (t:=t) (x:=.pointer a) (y:=.int k n)
 rwa[dI,gB]at this
def aE9{π:Ren}{a:Option J_}{n:Int}:VR P π (movedPointer t (.pointer a) (.int k n)) (movedPointer t (.pointer (a.map (addr π))) (.int k n)):=by
 have:=aY5 (P:=P) (π:=π) (t:=t) (x:=.pointer a) (y:=.int k n)
 rwa[dI,gB]at this
def QT{π:Ren}(H:Ok P π){a:BinOp}{x:D_}(ho:a=.eql\/a=.neq):VR P π (binOp a t x y) (binOp a t (val π x) (val π y)):=by
 have b:=aBn (P:=P) (π:=π) H (t:=t) (x:=x) (y:=y)
 revert b
 rcases ho with rfl|rfl<;>unfold binOp<;>cases x<;>cases y<;>simp only[vS]<;>intro b<;>first|with_reducible exact aB b λ_=>av (iq _).symm|skip
 all_goals first
  |exact Jq
  |(split<;>first|exact aD|exact aDs|exact(NY _ _ _ _).still|exact(aG2 _ _ _ _ _ _).still)
def aMw{π:Ren}(H:Ok P π){d:BinOp}{x:D_}(h1:d≠.eql)(h2:d≠.neq):VR P π (binOp d t x y) (binOp d t (val π x) (val π y)):=by
 unfold binOp;cases d<;>first|exact absurd rfl h1|exact absurd rfl h2|skip
 all_goals clear h1 h2;rcases x with b|⟨k,n⟩|⟨k,n⟩|⟨k,n,m⟩|s|(_|a)|⟨a,l,c⟩|r|r|⟨g,f,c⟩|_|⟨p,v⟩|_|c|c<;>rcases y with b|⟨e,i⟩|⟨e,i⟩|⟨e,i,o⟩|s'|(_|b)|⟨b,h,j⟩|r'|r'|⟨g',f',j⟩|_|⟨q,w⟩|_|d'|d'<;>simp only[vS]<;>first|with_reducible exact aD|with_reducible exact kg|skip
 all_goals first
  |exact Jq|exact bFe H|exact Hz (a:=B_)|exact Hz (a:=A_ _)
  |(split<;>first|exact aD|exact aDq|exact aWd H|exact aDr|exact aDs|exact(aG5 _ _ _ _).still|exact(NY _ _ _ _).still|exact(aG2 _ _ _ _ _ _).still)
  |exact aB bV λ_=>lG (aE9 (a:=B_)) (Hz (a:=B_))
  |exact aB bV λ_=>lG (aE9 (a:=A_ _)) (Hz (a:=A_ _))
  |exact xS λa l=>aK9
  |exact xS λa l=>xS λb h=>aK8 H
  |exact xS λa l=>xS λb h=>aLa H
def aMx{π:Ren}(H:Ok P π){a:BinOp}{x:D_}:VR P π (binOp a t x y) (binOp a t (val π x) (val π y)):=by
 by_cases h1:a=.eql
 ·exact QT H (.inl h1)
 ·by_cases h2:a=.neq
  ·exact QT H (.inr h2)
  ·exact aMw H h1 h2
def bHw{π:Ren}{d:UnOp}{x:D_}:VR P π (Op.unary d x) (Op.unary d (val π x)):=by
 unfold Op.unary;rcases x with b|⟨k,n⟩|⟨k,n⟩|⟨k,n,m⟩|s|(_|a)|⟨a,l,c⟩|r|r|⟨g,f,c⟩|_|⟨e,v⟩|_|c|c<;>simp only[vS]<;>cases d<;>first|with_reducible exact aD|with_reducible exact kg|exact aDq|exact aDr|exact av s7
def aNj{π:Ren}(s:ByteArray)(n:Nat):vals π (s.data.map (λb=>Value.int .u8 b.toNat)++UJ n (.int .u8 0))=s.data.map (λb=>Value.int .u8 b.toNat)++UJ n (.int .u8 0):=by
 rw[uH,Rp];congr 1;unfold vals;rw[Array.map_replicate];simp
def aZh{π:Ren}{e:RZ}{c b:Array D_}(h:b=vals π c):aC P π (λa a'=>a'=addr π a/\π.gh a.block=E_) (newRow e c) (newRow e b):=by
 subst h;unfold newRow;refine TS (aFd) λr r' h=>?_
 obtain⟨rfl,h⟩:=h;exact av ⟨rfl,h⟩
def aUu{π:Ren}{f:RZ->Sem α}(h:∀e,GB P π (f e)):GB P π (elemOf t >>= f):=by
 unfold elemOf underlying;refine .prog _ ?_;show GB P π ((match P.underlying t with|some d=>(pure d:Sem TypeDesc)|none=>stuck "no such type") >>= _ >>= f);cases P.underlying t with
 |none=>exact .bad _ (.stuck _)
 |some d=>cases d<;>first|exact h _|exact .bad _ (.stuck _)
def bGp{π:Ren}{e:RZ}{s:ByteArray}:VR P π (Conv.stringToBytes e s) (Conv.stringToBytes e s):=by
 unfold Conv.stringToBytes;refine aB mg λcap=>TS (aZh (aNj _ _).symm) λa a' h=>?_
 obtain⟨rfl,h⟩:=h;exact aB (aEx h) λ_=>av s7
def bEd{π:Ren}(s:ByteArray):∀(b i:Nat) (acc:Array D_),vals π acc=acc->vals π (Conv.runesFrom s b i acc)=Conv.runesFrom s b i acc:=by
 intro b
 induction b with
 |zero=>intro i acc h;exact h
 |succ b ih=>
  intro i acc h;unfold Conv.runesFrom;split
  ·exact ih _ _ (by rw[Px,h,gB])
  ·exact h
def bGq{π:Ren}{e:RZ}{s:ByteArray}:VR P π (Conv.stringToRunes e s) (Conv.stringToRunes e s):=by
 unfold Conv.stringToRunes;exact aB mg λcap=>fA (BP (by rw[uH,bEd s _ _ #[] qF];congr 1;unfold vals;rw[Array.map_replicate];simp)) λa=>av s7
def aUn{π:Ren}(f:D_->β->Sem (ForInStep β))(h:∀v b,ER P π (f v b) (f (val π v) b))(l:List D_):∀b,ER P π (forIn l b f) (forIn (l.map (val π)) b f):=by
 induction l with
 |nil=>intro b;simp only[TV,List.forIn_nil];exact av rfl
 |cons a l ih=>
  intro b;simp only[RY,List.forIn_cons];refine aB (h a b) λs=>?_
  cases s<;>dsimp only
  ·exact av rfl
  ·exact ih _
def aCl{π:Ren}(f:D_->β->Sem (ForInStep β))(h:∀v b,ER P π (f v b) (f (val π v) b))(l:Array D_)(b:β):ER P π (forIn l b f) (forIn (vals π l) b f):=by
 rw[<-YQ,<-YQ,rC];exact aUn f h _ b
def aNk{π:Ren}{x:D_}:VR P π (Conv.bytesToString x) (Conv.bytesToString (val π x)):=by
 unfold Conv.bytesToString;cases x<;>simp only[vS]<;>try exact aD
 next a n _=>
 cases a<;>dsimp only[TF]
 ·exact av s7
 ·refine zy Hq λcs=>aB (aCl _ (λv b=>?_) _ _) λs=>av s7
  cases v<;>simp only[vS]<;>try exact aD
  next k n=>cases k<;>first|exact aD|exact av rfl
def bEe{π:Ren}{x:D_}:VR P π (Conv.runesToString x) (Conv.runesToString (val π x)):=by
 unfold Conv.runesToString;cases x<;>simp only[vS]<;>try exact aD
 next a n _=>
 cases a<;>dsimp only[TF]
 ·exact av s7
 ·refine zy Hq λcs=>aB (aCl _ (λv b=>?_) _ _) λs=>av s7
  cases v<;>simp only[vS]<;>try exact aD
  next k n=>cases k<;>first|exact aD|exact av rfl
def aHz{π:Ren}{a:J_}:AR P π (Conv.seenAt a) (Conv.seenAt (addr π a)):=by
 unfold Conv.seenAt;refine TS JF λv v' e=>?_
 subst e;cases v
 ·exact av rfl
 ·next v=>
  obtain⟨s,u⟩:=v;rw[Si];dsimp only;rw[show(addr π a).off=a.off from rfl,show(addr π a).spot=a.spot from rfl,show(addr π s).spot=s.spot from rfl,show(addr π s).off=s.off from rfl];refine lG (av rfl) ?_;refine mD lU ?_;refine iV ?_;split
  ·cases hg:π.gh s.block;rotate_left 1
   ·exact .nil (π.hgh _ hg) (uU λs b=>by rw[b hg];exact .bad _ (.kV _ rfl))
   refine aB (oh hg) λx=>?_
   cases x
   ·exact lU
   ·next x=>
    obtain⟨e,cells⟩:=x;refine mD lU ?_;split
    ·exact av rfl
    ·exact lU
  ·exact lU
def bH3{π:Ren}{s d:RZ}{x:D_}:VR P π (Conv.unsafePointer s d x) (Conv.unsafePointer s d (val π x)):=by
 unfold Conv.unsafePointer;refine aB bV λu=>aB bV λw=>?_
 cases u with
 |pointer t=>
  cases w with
  |unsafePointer=>
   rcases x with b|⟨k,n⟩|⟨k,n⟩|⟨k,n,m⟩|s|(_|a)|⟨a,l,c⟩|r|r|⟨g,f,c⟩|_|⟨e,v⟩|_|c|c<;>simp only[vS]<;>first|with_reducible exact aD|with_reducible exact av s7|skip
   refine fA aHz λs=>aB (aNz) λn=>?_
   rw[show(addr π s).off=s.off from rfl,show(addr π s).spot=s.spot from rfl];refine aB kC λz=>lG ?_ (av s7)
   exact uN (BO rfl) λr=>av (by simp[addr])
  |_=>exact aD
 |unsafePointer=>
  cases w with
  |pointer t=>
   rcases x with b|⟨k,n⟩|⟨k,n⟩|⟨k,n,m⟩|s|(_|a)|⟨a,l,c⟩|r|r|⟨g,f,c⟩|_|⟨e,v⟩|_|c|c<;>simp only[vS]<;>first|with_reducible exact aD|with_reducible exact av s7|skip
   refine fA aHz λs=>aB kC λz=>?_
   cases hg:π.gh s.block;rotate_left 1
   ·unfold variablesAt
    by_cases i:z=0
    ·subst i;refine iV ?_;refine .xu hg λx=>?_
     cases x<;>exact av s7
    ·refine .nil (π.hgh _ hg) (.prog _ (uU λx h=>?_));rw[h hg];rw[RH i];exact uU λx h=>by rw[h hg];exact .bad _ (.kV _ rfl)
   refine aB (aJ3 hg) λq=>lG (av s7) ?_
   refine aB (oh hg) λx=>?_
   cases x
   ·exact lU
   ·next x=>
    refine iV ?_;refine iV ?_;refine mD lU ?_;exact uN (BO rfl) λr=>av (by simp[addr])
  |unsafePointer=>rcases x with b|⟨k,n⟩|⟨k,n⟩|⟨k,n,m⟩|s|(_|a)|⟨a,l,c⟩|r|r|⟨g,f,c⟩|_|⟨e,v⟩|_|c|c<;>simp only[vS]<;>first|with_reducible exact aD|with_reducible exact av s7
  |int k=>rcases x with b|⟨k,n⟩|⟨k,n⟩|⟨k,n,m⟩|s|(_|a)|⟨a,l,c⟩|r|r|⟨g,f,c⟩|_|⟨e,v⟩|_|c|c<;>simp only[vS]<;>first|with_reducible exact aD|with_reducible exact av s7|exact QD
  |_=>exact aD
 |int k=>
  cases w with
  |unsafePointer=>
   rcases x with b|⟨k,(_|n)|n⟩|⟨k,n⟩|⟨k,n,m⟩|s|(_|a)|⟨a,l,c⟩|r|r|⟨g,f,c⟩|_|⟨e,v⟩|_|c|c<;>simp only[vS]<;>first|with_reducible exact aD|exact lU
  |_=>exact aD
 |_=>exact aD
def IL(k:IntKind)(r:Int):Quiet P Still (pure (.int k r):Sem D_):=.pure _ λ_=>gB _ _
def bCv(k:FloatKind)(n:Nat)(d:IntKind):Quiet P Still (Conv.floatToInt k n d):=by
 unfold Conv.floatToInt;split
 ·split
  ·exact IL _ _
  ·exact(NU _).bind λ_=>IL _ _
 ·exact(NU _).bind λ_=>IL _ _
def bCt(k d:FloatKind)(n m:Nat):Quiet P Still (Conv.complexToComplex k n m d):=by
 unfold Conv.complexToComplex;refine(IJ k d n).bind λv=>?_
 split
 ·refine(IJ k d m).bind λv=>?_
  split
  ·exact Er _ _ _
  ·exact xg _
 ·exact xg _
def aOm{π:Ren}{st e:RZ}{x:D_}(o:π.lax=G_->st≠e):VR P π (convert st e x) (convert st e (val π x)):=by
 unfold convert;refine aB bV λu=>?_
 refine aB bV λw=>?_
 have j:=bH3 (P:=P) (π:=π) (s:=st) (d:=e) (x:=x);have h:=aNk (P:=P) (π:=π) (x:=x);have i:=bEe (P:=P) (π:=π) (x:=x)
 revert j h i
 rcases x with b|⟨k,n⟩|⟨k,n⟩|⟨k,n,m⟩|s|(_|a)|⟨_|a,l,c⟩|r|r|⟨g,f,c⟩|_|⟨q,v⟩|_|c|c<;>simp only[vS]<;>intro j h i<;>cases w<;>cases u<;>first|with_reducible exact jr|with_reducible exact kg|with_reducible exact j|exact av s7|exact(IL _ _).still|exact(quiet_i2f _ _).still|exact(bCv _ _ _).still|exact(IJ _ _ _).still|exact(bCt _ _ _ _).still|skip
 all_goals refine aB bV λu=>?_
 all_goals first
  |(cases u<;>first|exact aD|(next k=>cases k<;>first|exact aD|exact h|exact i|exact bGp|exact bGq))
  |(cases u<;>cases hsd:st == e<;>first|exact jr|(next k=>cases k<;>first|exact jr|exact aB (aEx (Dx (λp=>o p (by simpa using hsd)) _)) λ_=>av s7))
def aDt{π:Ren}{c:Prop}[Decidable c]{x y:Sem α}{a b:Sem β}(h1:aC P π A x a)(h2:aC P π A y b):aC P π A (if c then x else y) (if c then a else b):=by
 split
 ·exact h1
 ·exact h2
def nD{π:Ren}(l:List D_):vals π ⟨l⟩=⟨l.map (val π)⟩:=by apply YA;simp[vals]
def bH5{π:Ren}(H:Ok P π){args:Array D_}:VR P π (Builtin.unsafeString_ ts t args) (Builtin.unsafeString_ ts t (vals π args)):=by
 unfold Builtin.unsafeString_;obtain⟨l⟩:=args;rw[nD];rcases l with _|⟨x,_|⟨y,_|⟨z,l⟩⟩⟩
 ·exact aD
 ·exact aD
 ·rw[RY,RY,TV];cases x<;>(try rw[dI])<;>first|((first|rw[iq]|rw[gB]|rw[jP]|rw[jO]|rw[jB]|rw[dI]|rw[gD]|rw[gT]|rw[iY]|rw[gM]|rw[fM]|rw[fq]|rw[gN]|rw[jQ]|rw[iZ]);exact aD)|skip
  next a=>
  refine aB vX λn=>?_
  cases ts[0]?
  ·exact aD
  ·dsimp only;refine GH H ?_;refine mD lU ?_;cases a<;>dsimp only[TF]
   ·split
    ·exact av s7
    ·exact gQ H
   ·next a=>
    split
    ·exact av s7
    ·cases hg:π.gh a.block;rotate_left 1
     ·exact .nil (π.hgh _ hg) (aUu λe=>.prog _ (uU λx b=>by rw[b hg];exact .bad _ (.kV _ rfl)))
     refine aB zH λe=>aB (aJ3 hg) λq=>lG ?_ lU
     exact aB (aXq _ _ _) λs=>aB (Gu hg) λ_=>av s7
 ·exact aD
def bH4{π:Ren}{args:Array D_}:VR P π (M_ ts t args) (M_ ts t (vals π args)):=by
 unfold M_;obtain⟨l⟩:=args;rw[nD];rcases l with _|⟨x,_|⟨y,l⟩⟩
 ·exact aD
 ·rw[RY,TV];cases x<;>(try rw[gD])<;>first|((first|rw[iq]|rw[gB]|rw[jP]|rw[jO]|rw[jB]|rw[dI]|rw[gD]|rw[gT]|rw[iY]|rw[gM]|rw[fM]|rw[fq]|rw[gN]|rw[jQ]|rw[iZ]);exact aD)|skip
  next a _ c=>
  cases a<;>dsimp only[TF]
  ·exact av s7
  ·refine aDt (av s7) ?_;refine TS JF λv v' e=>?_
   subst e;cases v
   ·exact aB zH λe=>uN (BO rfl) λr=>av (by simp[addr])
   ·exact av s7
 ·exact aD
def bBo{π:Ren}:ER P π Instr.panicnil Instr.panicnil:=by
 unfold Instr.panicnil;refine aC.sys λr=>?_
 cases r<;>first|exact .halt rfl|exact .program (.pure rfl)
def aWg{π:Ren}(H:Ok P π){x:D_}:VR P π (Instr.panic x) (Instr.panic (val π x)):=by
 unfold Instr.panic;cases x<;>simp only[vS]<;>first|exact aD|exact uh s7|skip
 exact aB bBo λn=>lG (uh s7) (gQ H)
def place(π:Ren):Place->Place
 | .val v=>.val (val π v)
 | .var a=>.var (addr π a)
def Eo{π:Ren}{x:Place}:VR P π (x.get t) ((place π x).get t):=by
 cases x
 ·exact av rfl
 ·exact rZ
def aCk{π:Ren}(H:Ok P π)(l:List FieldStep):∀(t:RZ) (x:Place),aC P π (λr r'=>r'=(r.1,place π r.2)) (follow l t x) (follow l t (place π x)):=by
 induction l with
 |nil=>intro t x;exact av rfl
 |cons s l ih=>
  intro t x;unfold follow;refine aB bV λd=>?_
  cases d<;>try exact aD
  next fs=>
  dsimp only;cases fs[s.index]?
  ·exact aD
  next f=>
  dsimp only;refine lG ?_ ?_
  ·exact cK Eo λv=>fA (zu H) λa=>fA Lp λa=>ih _ (.var a)
  ·cases x with
   |var a=>exact fA Lp λa=>ih _ (.var a)
   |val v=>
    cases v with
    |agg cs=>
     simp only[place,fq];exact cK lM λv=>ih _ (.val v)
    |_=>simp only[place];simp only[vS];exact aD
def bI2{π:Ren}(H:Ok P π){a b:String}:VR P π (n_ ts t #[v,strVal a,strVal b]) (n_ ts t #[val π v,strVal a,strVal b]):=by
 unfold n_ strVal;cases v<;>first|((first|rw[iq]|rw[gB]|rw[jP]|rw[jO]|rw[jB]|rw[dI]|rw[gD]|rw[gT]|rw[iY]|rw[gM]|rw[fM]|rw[fq]|rw[gN]|rw[jQ]|rw[iZ]);exact aD)|skip
 next a=>
 rw[dI];cases a;rotate_left 1
 ·next a=>exact av (a:=Value.pointer (A_ a)) (b:=Value.pointer (A_ (addr π a))) s7
 refine aB mg λn=>GH H ?_
 cases ts[0]?
 ·exact aD
 ·dsimp only;refine aB bV λd=>?_
  cases d<;>try exact aD
  refine oP λi _=>?_
  split
  ·split
   ·split
    ·exact gQ H
    ·exact jr
   ·exact aD
  ·exact aD
def aHc{π:Ren}(H:Ok P π){x:Place}{p:Bool}{w:Option String}:VR P π (receiverAt t x p w) (receiverAt t (place π x) p w):=by
 unfold receiverAt;refine aB bV λd=>?_
 cases d with
 |pointer e=>
  cases p<;>dsimp only
  ·refine cK Eo λv=>?_
   cases w<;>dsimp only
   ·refine iJ ?_;exact fA (zu H) λa=>rZ
   ·exact cK (bI2 H) λv=>fA (zu H) λa=>rZ
  ·exact Eo
 |_=>
  cases p<;>cases x<;>first|exact Eo|exact aD|exact av s7
def bDk{π:Ren}(H:Ok P π){a:Array FieldStep}{p:Bool}:VR P π (receiverVia t v a p) (receiverVia t (val π v) a p):=by
 unfold receiverVia;refine TS (aCk H a.toList t (.val v)) λr r' e=>?_
 subst e;exact aHc H
def aYs{π:Ren}(H:Ok P π){name:String}(hn:π.ms name):∀(n:Nat) (t:RZ) (v:D_),aC P π (λr r'=>r'=(r.1,val π r.2)/\π.fs r.1) (method n t v name) (method n t (val π v) name):=by
 intro n
 induction n with
 |zero=>intro t v;exact vB
 |succ n ih=>
  intro t v;unfold method;refine oP λi hi=>?_
  cases hf:i.methods.find? (λm=>m.name == name)
  ·exact aD
  next m=>
  refine TS (aCk H m.path.toList t (.val v)) λr r' e=>?_
  subst e;obtain⟨b,x⟩:=r;cases hm:m.func
  ·dsimp only;refine cK Eo λv=>?_
   cases v<;>simp only[vS]<;>first|with_reducible exact aD|exact ih _ _|exact gQ H
  ·next q=>
   obtain⟨f,p⟩:=q;refine cK (aHc H) λv=>av ⟨rfl,?_⟩
   have h1:=Array.mem_of_find?_eq_some hf;have h2:=Array.find?_some hf;have a:m.name=name:=by simpa using h2
   exact H.aYq t i m f p hi h1 (a▸hn) hm
def aUl{π:Ren}(l:List FieldStep):∀(t:RZ) (x:Option D_),aC P π (λr r'=>r'=r.map λy=>(y.1,y.2.map (val π))) (followBlind l t x) (followBlind l t (x.map (val π))):=by
 induction l with
 |nil=>intro t x;exact av rfl
 |cons s l ih=>
  intro t x;unfold followBlind;refine aB bV λd=>?_
  cases d<;>try exact aD
  next fs=>
  dsimp only;cases fs[s.index]?
  ·exact aD
  next f=>
  dsimp only;cases s.deref<;>rcases x with _|x<;>dsimp only[TF]
  ·exact ih _ B_
  ·cases x with
   |agg cs=>rw[fq];exact cK lM λv=>ih _ (A_ v)
   |_=>simp only[vS];exact aD
  ·exact av rfl
  ·rcases x with b|⟨k,n⟩|⟨k,n⟩|⟨k,n,m⟩|s|(_|a)|⟨a,l,c⟩|r|r|⟨g,f,c⟩|_|⟨e,v⟩|_|c|c<;>simp only[vS]<;>first|with_reducible exact aD|exact av rfl|exact ih _ B_
def aZn{π:Ren}{h:String}:∀(n:Nat) (t:RZ) (v:D_),ER P π (nilAhead n t v h) (nilAhead n t (val π v) h):=by
 intro n
 induction n with
 |zero=>intro t v;exact av rfl
 |succ n ih=>
  intro t v;unfold nilAhead;refine oP λi _=>?_
  cases i.methods.find? (λm=>m.name == h)
  ·exact aD
  next m=>
  refine TS (aUl m.path.toList t (A_ v)) λr r' e=>?_
  subst e;rcases r with r|⟨o,x⟩
  ·exact av rfl
  ·simp only[Except.map];rcases m.func with _|⟨f,_|_⟩
   ·rcases x with _|x<;>dsimp only[TF]
    ·exact av rfl
    ·cases x<;>simp only[vS]<;>first|with_reducible exact aD|exact ih _ _|exact av rfl
   ·refine aB bV λd=>?_
    cases d<;>try exact av rfl
    rcases x with _|x<;>dsimp only[TF]
    ·exact av rfl
    ·rcases x with b|⟨k,n⟩|⟨k,n⟩|⟨k,n,m⟩|s|(_|a)|⟨a,l,c⟩|r|r|⟨g,f,c⟩|_|⟨j,v⟩|_|c|c<;>simp only[vS]<;>exact av rfl
   ·exact av rfl
def okB:Builtin->Bool
 | .append| .cap| .clear| .copy| .delete| .len| .max| .min| .recover| .unsafeSliceData| .unsafeString=>G_
 |_=>E_
def zi(π:Ren):Fn->Prop
 | .func f=>π.fs f
 | .via _ _ f _=>π.fs f
 | .method n=>π.ms n
 | .methodOf _ n=>π.ms n
 | .yield _=>True
def vN(π:Ren):Target->Prop
 | .fn g _=>zi π g
 | .builtin b _ _ _=>okB b=G_/\π.bad b=E_
 | .nil=>True
 | .collected _=>True
 | .coroexit _=>False
structure Ext(P:TB)(π:Ren):Prop where
 num:∀f fn,π.fs f→P.funcs[f]? = A_ fn→(fn.name == "runtime.NumGoroutine")=E_
 nxt:∀f fn,π.fs f->P.funcs[f]? = A_ fn->fn.body.isNone=G_->Extern.findNext fn=B_
 ext:∀f fn e,π.fs f->P.funcs[f]? = A_ fn->fn.body.isNone=G_->Extern.find fn=A_ e->∀args,VR P π (e args) (e (vals π args))
variable {π:Ren} {args:Array D_}
abbrev NR(P:TB)(π:Ren):Sem Next->Sem Next->Prop:=aC P π (nH π)
def fC{s s':Sem D_}(h:VR P π s s'):NR P π (s >>= λv=>pure (.value v)) (s' >>= λv=>pure (.value v)):=cK h λ_=>av (.value _)
def Ov{s s':Sem Unit}(h:ER P π s s'):NR P π (s >>= λ_=>pure .skip) (s' >>= λ_=>pure .skip):=aB h λ_=>av .skip
def aNh(H:Ok P π){b:Builtin}{cs:Array Bool}(a:okB b=G_):NR P π (builtin b ts t cs args) (builtin b ts t cs (vals π args)):=by
 unfold builtin;cases b<;>try(exfalso;revert a;decide)
 all_goals dsimp only
 ·exact fC (aLq H)
 ·exact fC aNw
 ·exact fC (aN3 H)
 ·exact fC aOn
 ·exact fC (aPn H)
 ·exact fC aXf
 ·exact fC aYk
 ·exact fC aYx
 ·exact av .recover
 ·exact fC bH4
 ·exact fC (bH5 H)
def Kz(E:Ext P π){f:XG}(a:π.fs f):NR P π (YK f args) (YK f (vals π args)):=by
 unfold YK;refine iV ?_;cases hfn:P.funcs[f]? with
 |none=>exact aD
 |some fn=>
  dsimp only;rw[E.num f fn a hfn];simp only[SE,if_false];cases hb:fn.body.isNone
  ·exact av (.enter f args a)
  ·simp only[if_true,E.nxt f fn a hfn hb];refine aB (aEy (m:=.extern f)) λ_=>?_
   cases he:Extern.find fn with
   |none=>
    dsimp only;refine lG (av ?_) Lh;have:=nH.value (π:=π) (.tuple #[])
    rwa[gN,qF]at this
   |some e=>exact fC (E.ext f fn e a hfn hb he args)
def KA(H:Ok P π)(E:Ext P π){n:String}(hn:π.ms n):NR P π (callMethod v n args) (callMethod (val π v) n (vals π args)):=by
 unfold callMethod;cases v<;>simp only[vS]<;>first|exact aD|exact gQ H|skip
 refine iV ?_;refine TS (aYs H hn _ _ _) λr r' e=>?_
 obtain⟨rfl,a⟩:=e;obtain⟨f,v⟩:=r;have:=Kz E (args:=#[v]++args) a
 rwa[uH,Av]at this
def GR(H:Ok P π)(E:Ext P π){t:Target}(a:vN π t):NR P π (invoke t args) (invoke (target π t) (vals π args)):=by
 unfold invoke;cases t with
 |nil=>exact gQ H
 |collected r=>exact aD
 |coroexit c=>exact a.elim
 |builtin b ts t cs=>
  simp only[target,a.2,SE,if_false];exact aNh H a.1
 |fn g cap=>
  cases g with
  |func f=>
   simp only[target,fn,H.fs f a];have:=Kz E (args:=args++cap) a
   rwa[uH]at this
  |yield l=>exact bI7
  |method n=>
   simp only[target,fn,H.ms n a,iw];cases args[0]?
   ·exact aD
   ·have:=KA H E (v:=‹D_›) (args:=args.extract 1 args.size) a;rw[Pw]at this;rw[vG];exact this
  |methodOf t n=>
   simp only[target,fn,H.ms n a,iw];cases args[0]?
   ·exact aD
   ·next v=>
    simp only[Si];refine aB bV λd=>?_
    have h1:=KA H E (v:=v) (args:=args.extract 1 args.size) a;have h2:=KA H E (v:=.iface t v) (args:=args.extract 1 args.size) a;rw[Pw]at h1 h2;rw[fM]at h2;rw[vG];cases d<;>first|exact h1|exact h2
  |via t path f p=>
   simp only[target,fn,H.fs f a,iw];cases args[0]?
   ·exact aD
   ·next v=>
    simp only[Si];refine cK (bDk H) λx=>?_
    have:=Kz E (args:=#[x]++args.extract 1 args.size) a;rw[uH,Av,Pw]at this;rw[vG];exact this
def aFz(hv:∀g a c,v=.func g a c->zi π g):aC P π (λd d'=>d'=deferred π d/\vN π d.target) (Deferred.ofValue v args) (Deferred.ofValue (val π v) (vals π args)):=by
 unfold Deferred.ofValue;cases v<;>simp only[vS]<;>try exact aD
 ·next g a c=>exact av ⟨by simp[deferred,target],hv g a c rfl⟩
 ·exact av ⟨by simp[deferred,target],trivial⟩
def Cy(π:Ren)(ρ:XO->D_)(c:Call):Prop:=
 match c.callee with
 | .builtin b=>okB b=G_/\π.bad b=E_
 | .invoke _ n=>π.ms n
 | .value f=>∀g a cs,ρ f=.func g a cs->zi π g
def Og(H:Ok P π){c:Call}(a:Cy π ρ c):aC P π (λd d'=>d'=deferred π d/\vN π d.target) (resolve ρ c t) (resolve (λx=>val π (ρ x)) c t):=by
 unfold resolve;unfold Cy at a;have e:c.args.map (λx=>val π (ρ x))=vals π (c.args.map ρ):=by unfold vals;rw[Vt];rfl
 rw[e];cases hcal:c.callee<;>rw[hcal]at a<;>dsimp only at a⊢
 ·next f=>exact aFz a
 ·next r n=>exact av ⟨by simp[deferred,target,fn,H.ms n a,Av],a⟩
 ·next b=>exact av ⟨by simp[deferred,target,a.2],a⟩
def Fj(π:Ren)(ρ:XO->D_)(o:Oper):Prop:=
 match o.op with
 | .convert s d _=>π.lax=G_->s≠d
 | .call c| .defer c=>Cy π ρ c
 | .makeFunc g _ _=>fn π g=g
 | .nilCheck x=>∀g a cs,ρ x=.func g a cs->zi π g
 | .go _| .send ..| .recv ..| .select ..| .makeChan ..| .ready ..| .waits ..| .mapEntry ..| .entryStore ..| .sliceToArrayPointer .. =>False
 |_=>True
def Iu(ρ:XO->D_)(x:Option XO):x.map (λx=>val π (ρ x))=(x.map ρ).map (val π):=by cases x<;>rfl
def Qy(ρ:XO->D_)(x:Array XO):x.map (λx=>val π (ρ x))=vals π (x.map ρ):=by unfold vals;rw[Vt];rfl
def aGj(ρ:XO->D_)(x:Array (Nat×XO)):x.map (λp=>(p.1,val π (ρ p.2)))=(x.map λp=>(p.1,ρ p.2)).map λp=>(p.1,val π p.2):=by rw[Vt];rfl
def aS7(H:Ok P π)(E:Ext P π)(ho:Fj π ρ o):NR P π (XQ ρ o) (XQ (λx=>val π (ρ x)) o):=by
 unfold XQ;unfold Fj at ho;cases hop:o.op<;>rw[hop]at ho<;>dsimp only at ho⊢<;>first|exact ho.elim|exact av (.value _)|skip
 case pick c a b=>exact aB CU λq=>av (by cases q<;>exact .value _)
 case alloc=>exact fC (aLh H)
 case box=>exact fC aNd
 case build=>rw[aGj];exact fC (aNg H)
 case buildSlice=>rw[aGj];exact fC (aNf H)
 case insert=>exact Ov (aEw H)
 case load=>exact fC aXo
 case store=>exact Ov bGi
 case binOp=>exact fC (aB aSu λ_=>aMx H)
 case unOp=>exact fC bHw
 case convert=>exact fC (aOm ho)
 case makeInterface=>exact fC aYa
 case makeFunc g a c=>
  rw[Qy,Qy];refine fC (av ?_);rw[gM,ho]
 case makeMap=>rw[Iu];exact fC aYb
 case makeSlice=>exact fC (aYd H)
 case slice=>rw[Iu,Iu,Iu];exact fC (bFl H)
 case fieldAddr=>exact fC aTs
 case field=>exact fC aTt
 case indexAddr=>exact fC (aVs H)
 case index=>exact fC (aVv H)
 case lookup=>exact fC (aXu H)
 case mapUpdate=>exact Ov (aEw H)
 case range=>exact fC bC9
 case next=>exact fC (aZm _ _ _)
 case entry=>exact fC aSs
 case typeAssert=>exact fC (bHt H)
 case extract=>exact fC aTc
 case call c=>
  refine TS (Og H ho) λd d' e=>?_
  obtain⟨rfl,h⟩:=e;exact GR H E h
 case defer c=>
  refine TS (Og H ho) λd d' e=>?_
  obtain⟨rfl,h⟩:=e;exact av (.defer d)
 case panic=>exact fC (aWg H)
 case nilCheck x=>
  have hv:∀w:D_,NR P π (pure (.value w)) (pure (.value (val π w))):=λw=>av (.value w)
  generalize ρ x=w at ho⊢;have f:=hv w
  revert f
  cases w with
  |pointer a=>
   cases a
   ·intro _;rw[dI];exact gQ H
   ·rw[dI];exact id
  |nilIface=>intro _;rw[iZ];exact gQ H
  |nilFunc=>intro _;rw[jQ];exact gQ H
  |func g a c=>
   intro f;have i:=ho g a c rfl;rw[gM]at f⊢;cases g with
   |method n=>
    have hn:=H.ms n i;simp only[fn,hn]at f⊢;rw[iw];cases a[0]? with
    |none=>exact f
    |some y=>
     simp only[Si];cases y<;>simp only[vS]<;>first|with_reducible exact f|exact gQ H|skip
     refine iV ?_;exact aB (aZn _ _ _) λq=>mD jr f
   |_=>exact f
  |_=>simp only[vS];exact id
def aG7(s:String):Quiet P p (unsupported (.noEntry s):Sem α):=.noEntry s
def NZ{f:TB->Sem α}(h:Quiet P p (f P)):Quiet P p (program >>= f):=.program _ h
def aG8(t:RZ):Q0 P (typeInfo t):=by
 unfold typeInfo;refine NZ ?_;split
 ·exact uo _
 ·exact xg _
def aG9(t:RZ):Q0 P (typeStr t):=by
 unfold typeStr;refine(aG8 t).bind λi=>?_;dsimp only;split
 ·exact aG7 _
 ·exact uo _
def xk{p:Prop}(h:p:=by
 repeat'(with_reducible first
 |exact xg _|exact aG7 _|exact uo _|exact aG8 _|exact aG9 _|exact quiet_program
 |refine NZ ?_
 |refine Quiet.bind (p:=λ_=>True) ?_ λ_=>?_|dsimp only|split)):p:=h
section
open Extern.Rtype
variable {γ:Type} {s:Sem α} {ps rs:Array RZ} {u:RZ}
def IU(s:String)(t:RZ):Q0 P (noPack s t):=by unfold noPack;exact xk
def bCx(s:String)(t:RZ):Q0 P (noPackNamed s t):=by unfold noPackNamed;exact xk
def Es(s:String)(t:RZ):Q0 P (noPackMethods s t):=by unfold noPackMethods;exact xk
def Oa(t:RZ):Q0 P (spelt t):=by unfold spelt;exact(bCx _ _).bind λ_=>aG9 _
def Ca(t:RZ):Q0 P (under t):=by unfold under;exact xk
def IQ(t:RZ):Q0 P (kind t):=by
 unfold kind;refine(Ca t).bind λi=>?_;exact xk
def aG6(t:RZ):Q0 P (hasName t):=by unfold hasName;exact xk
def aG4(t:RZ):Q0 P (elem? t):=by
 unfold elem?;refine(Ca t).bind λi=>?_;exact xk
def IK(t u:RZ):Q0 P (implements t u):=by
 unfold implements;exact(Es _ _).bind λ_=>(Es _ _).bind λ_=>(Ca t).bind λi=>(Ca u).bind λj=>xk
def NW(t u:RZ):Q0 P (directlyAssignable t u):=by
 unfold directlyAssignable;split
 ·exact uo _
 ·refine(aG6 t).bind λi=>(aG6 u).bind λj=>?_
  split
  ·exact uo _
  ·exact(Ca t).bind λi=>(Ca u).bind λj=>xk
def jo{B:γ->β->Prop}{f:α->Sem γ}{f':α->Sem β}(h:Quiet P p s)(hk:∀a,aC P π B (f a) (f' a)):aC P π B (s >>= f) (s >>= f'):=
 TS h.refl λa b e=>by obtain⟨rfl,_⟩:=e;exact hk _
def aC7(H:Ok P π):VR P π (handle t) (handle t):=by
 unfold handle;exact iV (av (Pn H t).symm)
def aVf(H:Ok P π)(v:D_):handleType P (val π v)=handleType P v:=by
 unfold handleType;cases v<;>simp only[vS]
 next a=>
 cases a with
 |none=>rfl
 |some a=>
  simp only[Si]
  have:((addr π a).block == P.globals.size)=(a.block == P.globals.size):=by
   have:=nat_eq H a.block P.globals.size;rw[H.fix P.globals.size o7]at this;exact this
  rw[this];rfl
def Ii(H:Ok P π):ER P π (ofHandle v) (ofHandle (val π v)):=by
 unfold ofHandle;refine iV ?_;rw[aVf H];split
 ·exact av rfl
 ·exact aD
def bEi:VR P π (YE args) (YE (vals π args)):=by
 unfold YE;obtain⟨l⟩:=args;rw[nD];rcases l with _|⟨x,_|⟨y,l⟩⟩
 ·exact aD
 ·rw[RY,TV];exact av rfl
 ·exact aD
def aXp(n:Nat):∀(a:J_) (b:ByteArray),ER P π (o_ a n b) (o_ (addr π a) n b):=by
 induction n with
 |zero=>intro a b;exact av rfl
 |succ n ih=>
  intro a b;unfold o_;refine cK zX λv=>?_
  cases v<;>simp only[vS]<;>try exact aD
  next k m=>cases k<;>first|exact aD|(rw[<-addr_add];exact ih _ _)
def Ky:ER P π (Extern.Bytes.bytesOf v) (Extern.Bytes.bytesOf (val π v)):=by
 unfold Extern.Bytes.bytesOf;cases v<;>simp only[vS]<;>first|exact aD|exact av rfl|skip
 next a n c=>cases a<;>first|exact av rfl|exact aXp _ _ _
def aLu:ER P π (Extern.Bytes.asByte v) (Extern.Bytes.asByte (val π v)):=by
 unfold Extern.Bytes.asByte;cases v<;>simp only[vS]<;>try exact aD
 next k n=>cases k<;>first|exact aD|exact av rfl
def aUy(H:Ok P π){n:String}:AR P π (globalAddr n) (globalAddr n):=by
 unfold globalAddr;refine iV ?_;cases hg:P.globals.findIdx? (λx=>x.name == n)
 ·exact aD
 ·next g=>
  have a:g<P.globals.size:=by
   obtain⟨h,_⟩:=Array.findIdx?_eq_some_iff_getElem.1 hg;exact h
  exact av (by simp only[addr];rw[H.fix g o7])
def aVw(H:Ok P π):VR P π (Yn args) (Yn (vals π args)):=by
 unfold Yn;obtain⟨l⟩:=args;rw[nD];rcases l with _|⟨x,_|⟨y,_|⟨z,l⟩⟩⟩
 ·exact aD
 ·exact aD
 ·rw[RY,RY,TV];refine aB Ky λa=>aB Ky λb=>aB (by unfold Extern.BytealgIndex.maxLen;exact fA (aUy H) λ_=>cK zX λ_=>vX) λm=>mD jr ?_
  refine mD jr ?_;split<;>exact av (by simp[goInt])
 ·exact aD
def aVt:VR P π (WU args) (WU (vals π args)):=by
 unfold WU;obtain⟨l⟩:=args;rw[nD];rcases l with _|⟨x,_|⟨y,_|⟨z,l⟩⟩⟩
 ·exact aD
 ·exact aD
 ·rw[RY,RY,TV];refine aB Ky λa=>aB aLu λb=>?_
  split<;>exact av (by simp[goInt])
 ·exact aD
def aPr(n:Nat):∀(t:Nat) (acc:Array D_),vals π acc=acc->vals π (YB n t acc)=YB n t acc:=by
 induction n with
 |zero=>intro t acc h;exact h
 |succ n ih=>intro t acc h;unfold YB;exact ih _ _ (by rw[Px,h,gB])
def aYc(H:Ok P π):VR P π (WC ps rs args) (WC ps rs (vals π args)):=by
 unfold WC;obtain⟨l⟩:=args;rw[nD];rcases l with _|⟨x,_|⟨y,l⟩⟩
 ·exact aD
 ·rw[RY,TV];cases x<;>(try rw[gB])<;>first|((first|rw[iq]|rw[gB]|rw[jP]|rw[jO]|rw[jB]|rw[dI]|rw[gD]|rw[gT]|rw[iY]|rw[gM]|rw[fM]|rw[fq]|rw[gN]|rw[jQ]|rw[iZ]);exact aD)|skip
  next k n=>
  cases k<;>try exact aD
  obtain⟨l⟩:=rs;rcases l with _|⟨t,l⟩
  ·exact aD
  ·refine aB (bV) λd=>?_
   cases d<;>try exact aD
   refine GH H ?_;exact aB mg λcap=>aB Fy λ_=>aB mg λb=>fA (BP (aPr _ _ #[] qF).symm) λa=>av s7
 ·exact aD
def bBe(H:Ok P π):VR P π (Wu ps rs args) (Wu ps rs (vals π args)):=by
 unfold Wu;obtain⟨l⟩:=args;rw[nD];rcases l with _|⟨x,_|⟨y,_|⟨z,l⟩⟩⟩
 ·exact aD
 ·exact aD
 ·rw[RY,RY,TV];cases x<;>(try rw[gD])<;>first|((first|rw[iq]|rw[gB]|rw[jP]|rw[jO]|rw[jB]|rw[dI]|rw[gD]|rw[gT]|rw[iY]|rw[gM]|rw[fM]|rw[fq]|rw[gN]|rw[jQ]|rw[iZ]);exact aD)|skip
  next a la ca=>
  cases y<;>(try rw[gD])<;>first|((first|rw[iq]|rw[gB]|rw[jP]|rw[jO]|rw[jB]|rw[dI]|rw[gD]|rw[gT]|rw[iY]|rw[gM]|rw[fM]|rw[fq]|rw[gN]|rw[jQ]|rw[iZ]);exact aD)|skip
  next b lb cb=>
  obtain⟨l⟩:=ps;rcases l with _|⟨t,l⟩
  ·exact aD
  ·refine aB (bV) λd=>?_
   cases d<;>try exact aD
   refine aB kC λsize=>?_
   cases a<;>cases b<;>dsimp only[TF]<;>first|exact av s7|skip
   next a b=>
   have h1:((addr π a).block == (addr π b).block)=(a.block == b.block):=nat_eq H _ _
   have h2:((addr π a).block != (addr π b).block)=(a.block != b.block):=by
    show(!((addr π a).block == (addr π b).block))=!(a.block == b.block);rw[h1]
   rw[h1,h2,show(addr π a).off=a.off from rfl,show(addr π b).off=b.off from rfl];refine aDt (av s7) ?_;cases hga:π.gh a.block;rotate_left 1
   ·cases hab:(a.block != b.block)
    ·have c:π.gh b.block=G_:=by rw[<-hga];congr 1;exact(by simpa using hab:a.block=b.block).symm
     simp only[m_,SE,if_false];exact .uT hga λ_=>.uT c λ_=>av s7
    ·simp only[L_,if_true];refine .nil (π.hgh _ hga) (yw λs f=>yw λr _=>?_);rw[f hga];exact(Ib hga).bind'
   cases c:π.gh b.block;rotate_left 1
   ·cases hab:(a.block != b.block)
    ·exfalso;have:a.block=b.block:=by simpa using hab
     rw[this,c]at hga;cases hga
    ·simp only[L_,if_true];refine .nil (π.hgh _ c) (yw λs _=>yw λr m=>?_);rw[m c];cases s<;>exact aFm c
   refine uO (wO hga) λn g j=>uO (wO c) λo i k=>?_
   cases hab:(a.block != b.block)
   ·simp only[m_,SE,if_false];exact av s7
   ·simp only[L_,if_true];refine aC5 j k (.kV _ rfl) (.halt rfl) ?_;refine aB Aa λ_=>aB Aa λ_=>uO (aEz hga c) λs s' h=>?_
    have e:(a.block == b.block)=E_:=by simpa using hab
    rcases h.cases with rfl|⟨f,rfl,rfl⟩
    ·exact lG (aB mg λ_=>av s7) (av s7)
    ·refine .bH f rfl aB6 (.pure ?_);simp[e]
 ·exact aD
def aG3(n:String):Q0 P (cutType n):=by
 unfold cutType;refine NZ ?_;split
 ·exact uo _
 ·exact xg _
def Iy{s:String}:aC P π A (panicString s:Sem α) (panicString s:Sem β):=by
 unfold panicString;exact iV (uh (by simp[strVal]))
def Pf(H:Ok P π):VR P π (Xr t) (Xr t):=by
 unfold Xr;exact jo (aG3 _) λu=>cK (aC7 H) λh=>av (by simp[Av])
def Nl(H:Ok P π):ER P π (YF v) (YF (val π v)):=by
 unfold YF;cases v<;>(try rw[fq])<;>first|((first|rw[iq]|rw[gB]|rw[jP]|rw[jO]|rw[jB]|rw[dI]|rw[gD]|rw[gT]|rw[iY]|rw[gM]|rw[fM]|rw[fq]|rw[gN]|rw[jQ]|rw[iZ]);exact aD)|skip
 next c=>
 obtain⟨l⟩:=c;rw[nD];rcases l with _|⟨x,_|⟨y,l⟩⟩
 ·exact aD
 ·rw[RY,TV];exact aB (Ii H) λt=>jo (IU _ _) λ_=>av rfl
 ·exact aD
def bHv(H:Ok P π):VR P π (Xt args) (Xt (vals π args)):=by
 unfold Xt;obtain⟨l⟩:=args;rw[nD];rcases l with _|⟨x,_|⟨y,l⟩⟩
 ·exact aD
 ·rw[RY,TV];cases x with
  |nilIface=>rw[iZ];exact av s7
  |iface t v=>rw[fM];exact Pf H
  |_=>(first|rw[iq]|rw[gB]|rw[jP]|rw[jO]|rw[jB]|rw[dI]|rw[gD]|rw[gT]|rw[iY]|rw[gM]|rw[fM]|rw[fq]|rw[gN]|rw[jQ]|rw[iZ]);exact aD
 ·exact aD
def bDy(H:Ok P π){f:RZ->Sem D_}(a:∀t,VR P π (f t) (f t)):VR P π (Xq f args) (Xq f (vals π args)):=by
 unfold Xq;obtain⟨l⟩:=args;rw[nD];rcases l with _|⟨x,_|⟨y,l⟩⟩
 ·exact aD
 ·rw[RY,TV];exact aB (Nl H) λt=>a t
 ·exact aD
def bDr(H:Ok P π):VR P π (XL t) (XL t):=by
 unfold XL;refine jo (aG4 t) λe=>?_
 cases e
 ·exact jo (Oa t) λ_=>Iy
 ·exact Pf H
def aHe(H:Ok P π){s:String}{f:RZ->RZ->Sem Bool}(a:∀t u,ER P π (f t u) (f t u)):VR P π (VZ s f args) (VZ s f (vals π args)):=by
 unfold VZ;obtain⟨l⟩:=args;rw[nD];rcases l with _|⟨x,_|⟨y,_|⟨z,l⟩⟩⟩
 ·exact aD
 ·exact aD
 ·rw[RY,RY,TV];cases y with
  |nilIface=>rw[iZ];exact Iy
  |iface t v=>rw[fM];exact aB (Nl H) λt=>aB (Nl H) λu=>aB (a _ _) λb=>av s7
  |_=>(first|rw[iq]|rw[gB]|rw[jP]|rw[jO]|rw[jB]|rw[dI]|rw[gD]|rw[gT]|rw[iY]|rw[gM]|rw[fM]|rw[fq]|rw[gN]|rw[jQ]|rw[iZ]);exact aD
 ·exact aD
def aVq:ER P π (WK u t) (WK u t):=by
 unfold WK;refine jo (IQ u) λk=>mD Iy ?_
 exact jo (Es _ _) λ_=>jo (IU _ _) λ_=>((IK u t).refl).mono λ_ _ e=>e.1
def aL1:ER P π (WE u t) (WE u t):=by
 unfold WE;refine lG ?_ ?_
 ·exact jo (Es _ _) λ_=>jo (Es _ _) λ_=>jo (NW u t) λ_=>jo (IK u t) λ_=>av rfl
 ·exact jo (NW u t) λ_=>jo (IK u t) λ_=>av rfl
def aK2(H:Ok P π){f:RZ->Sem D_}(a:∀t,VR P π (f t) (f t)):VR P π (WX f args) (WX f (vals π args)):=by
 unfold WX;obtain⟨l⟩:=args;rw[nD];rcases l with _|⟨x,_|⟨y,l⟩⟩
 ·exact aD
 ·rw[RY,TV];exact aB (Ii H) λt=>jo (IU _ _) λ_=>a t
 ·exact aD
end
section
open Extern.Rtype
open Extern.ReflectliteValue (flagIndir flagAddr)
variable {z:Sem D_}
def aJ5(H:Ok P π){a:J_}{f:Nat}:VR P π (Zt t a f) (Zt t (addr π a) f):=by
 unfold Zt;exact cK (aC7 H) λh=>jo (IQ t) λk=>av (by simp[vals])
def aKn:val π YO=YO:=by simp[YO,vals]
def aJw(H:Ok P π):VR P π (VD v) (VD (val π v)):=by
 unfold VD;cases v<;>simp only[vS]<;>first|exact aD|exact av aKn.symm|skip
 exact fA zZ λa=>aJ5 H
def Aw{m:String}{k:Nat}:aC P π A (Vh m k:Sem α) (Vh m k:Sem β):=by
 unfold Vh;refine jo (aG3 _) λt=>aB zH λe=>fA (aFe (by simp[vals,strVal])) λa=>uh s7
def aGg(H:Ok P π):aC P π (λr r'=>r'=r.map λx=>(x.1,addr π x.2.1,x.2.2)) (Yr v) (Yr (val π v)):=by
 unfold Yr;cases v<;>(try rw[fq])<;>first|((first|rw[iq]|rw[gB]|rw[jP]|rw[jO]|rw[jB]|rw[dI]|rw[gD]|rw[gT]|rw[iY]|rw[gM]|rw[fM]|rw[fq]|rw[gN]|rw[jQ]|rw[iZ]);exact aD)|skip
 next c=>
 obtain⟨l⟩:=c;rw[nD];rcases l with _|⟨x,_|⟨y,_|⟨z,_|⟨u,l⟩⟩⟩⟩
 ·exact aD
 ·exact aD
 ·exact aD
 ·rw[RY,RY,RY,TV];cases z<;>(try rw[gB])<;>first|((first|rw[iq]|rw[gB]|rw[jP]|rw[jO]|rw[jB]|rw[dI]|rw[gD]|rw[gT]|rw[iY]|rw[gM]|rw[fM]|rw[fq]|rw[gN]|rw[jQ]|rw[iZ]);cases y<;>first|((first|rw[iq]|rw[gB]|rw[jP]|rw[jO]|rw[jB]|rw[dI]|rw[gD]|rw[gT]|rw[iY]|rw[gM]|rw[fM]|rw[fq]|rw[gN]|rw[jQ]|rw[iZ]);exact aD)|(next a=>cases a<;>((first|rw[iq]|rw[gB]|rw[jP]|rw[jO]|rw[jB]|rw[dI]|rw[gD]|rw[gT]|rw[iY]|rw[gM]|rw[fM]|rw[fq]|rw[gN]|rw[jQ]|rw[iZ]);exact aD)))|skip
  next k n=>
  cases k<;>first|(cases y<;>first|((first|rw[iq]|rw[gB]|rw[jP]|rw[jO]|rw[jB]|rw[dI]|rw[gD]|rw[gT]|rw[iY]|rw[gM]|rw[fM]|rw[fq]|rw[gN]|rw[jQ]|rw[iZ]);exact aD)|(next a=>cases a<;>((first|rw[iq]|rw[gB]|rw[jP]|rw[jO]|rw[jB]|rw[dI]|rw[gD]|rw[gT]|rw[iY]|rw[gM]|rw[fM]|rw[fq]|rw[gN]|rw[jQ]|rw[iZ]);exact aD)))|skip
  rcases n with(_|n)|n
  ·exact av rfl
  ·cases y<;>first|((first|rw[iq]|rw[gB]|rw[jP]|rw[jO]|rw[jB]|rw[dI]|rw[gD]|rw[gT]|rw[iY]|rw[gM]|rw[fM]|rw[fq]|rw[gN]|rw[jQ]|rw[iZ]);exact aD)|skip
   next a=>
   rw[dI];cases a
   ·exact aD
   ·exact aB (Ii H) λt=>av rfl
  ·cases y<;>first|((first|rw[iq]|rw[gB]|rw[jP]|rw[jO]|rw[jB]|rw[dI]|rw[gD]|rw[gT]|rw[iY]|rw[gM]|rw[fM]|rw[fq]|rw[gN]|rw[jQ]|rw[iZ]);exact aD)|skip
   next a=>
   rw[dI];cases a
   ·exact aD
   ·exact aB (Ii H) λt=>av rfl
 ·exact aD
abbrev PR(π:Ren)(r r':Option (RZ×J_×Nat)):Prop:=r'=r.map λx=>(x.1,addr π x.2.1,x.2.2)
def PE(H:Ok P π):aC P π (PR π) (YN v) (YN (val π v)):=by
 unfold YN;refine TS (aGg H) λr r' e=>?_
 subst e;rcases r with _|⟨t,a,f⟩
 ·exact av rfl
 ·exact jo (IU _ _) λ_=>av rfl
def PD(H:Ok P π){f:RZ->J_->Nat->Nat->Sem D_}(c:VR P π z z)(b:∀t a x y,VR P π (f t a x y) (f t (addr π a) x y)):VR P π (VB z f args) (VB z f (vals π args)):=by
 unfold VB;obtain⟨l⟩:=args;rw[nD];rcases l with _|⟨x,_|⟨y,l⟩⟩
 ·exact aD
 ·rw[RY,TV];refine TS (PE H) λr r' e=>?_
  subst e;rcases r with _|⟨t,a,f⟩
  ·exact c
  ·exact b _ _ _ _
 ·exact aD
def bIk(H:Ok P π){f:RZ->J_->Nat->Nat->Sem D_}(c:VR P π z z)(b:∀t a x y,VR P π (f t a x y) (f t (addr π a) x y)):VR P π (WV z f args) (WV z f (vals π args)):=by
 unfold WV;obtain⟨l⟩:=args;rw[nD];rcases l with _|⟨x,_|⟨y,l⟩⟩
 ·exact aD
 ·rw[RY,TV];refine TS (aGg H) λr r' e=>?_
  subst e;rcases r with _|⟨t,a,f⟩
  ·exact c
  ·exact b _ _ _ _
 ·exact aD
def aWj{a:J_}{x k:Nat}:VR P π (Xu t a x k) (Xu t (addr π a) x k):=by
 unfold Xu;refine mD Aw ?_;refine cK rZ λv=>?_
 rcases v with b|⟨k,n⟩|⟨k,n⟩|⟨k,n,m⟩|s|(_|a)|⟨_|a,l,c⟩|(_|r)|(_|r)|⟨g,f,c⟩|_|⟨d,v⟩|_|c|c<;>simp only[vS]<;>exact av (iq _).symm
def bIc(H:Ok P π){a:J_}{x k:Nat}:VR P π (XF t a x k) (XF t (addr π a) x k):=by
 unfold XF;refine mD Aw ?_;refine cK rZ λv=>jo (aG4 t) λe=>?_
 by_cases d:k=20
 ·subst d;exact aJw H
 ·by_cases h:k=22
  ·subst h;rcases v with b|⟨k,n⟩|⟨k,n⟩|⟨k,n,m⟩|s|(_|a)|⟨a,l,c⟩|r|r|⟨g,f,c⟩|_|⟨i,v⟩|_|c|c<;>cases e<;>simp only[vS]<;>first|exact Aw|exact av aKn.symm|exact aJ5 H
  ·split<;>first|exact absurd rfl d|exact absurd rfl h|skip
   split<;>first|exact absurd rfl d|exact absurd rfl h|exact Aw
def bIl(H:Ok P π):VR P π (XM args) (XM (vals π args)):=by
 unfold XM;obtain⟨l⟩:=args;rw[nD];rcases l with _|⟨x,_|⟨y,_|⟨z,l⟩⟩⟩
 ·exact aD
 ·exact aD
 ·rw[RY,RY,TV];refine TS (PE H) λr r' e=>?_
  subst e;refine TS (PE H) λq q' e=>?_
  subst e;rcases r with _|⟨t,a,f⟩<;>rcases q with _|⟨u,b,g⟩<;>try exact jr
  refine mD jr ?_;refine cK rZ λv=>?_
  have c:∀{t:RZ} {a:J_} {w w':D_},w'=val π w->VR P π (storeVar t a w >>= λ_=>pure (.tuple #[])) (storeVar t (addr π a) w' >>= λ_=>pure (.tuple #[])):=by
   rintro t a w _ rfl;exact aB Jm λ_=>av s7
  refine jo (NW t u) λd=>lG (c rfl) ?_
  refine jo (IK t u) λd=>lG ?_ ?_
  ·refine jo (IQ u) λk=>lG ?_ (c (fM _ _).symm)
   cases v with
   |nilIface=>rw[iZ];exact aB jr λ_=>av s7
   |_=>
    (first|rw[iq]|rw[gB]|rw[jP]|rw[jO]|rw[jB]|rw[dI]|rw[gD]|rw[gT]|rw[iY]|rw[gM]|rw[fM]|rw[fq]|rw[gN]|rw[jQ]|rw[iZ])
    refine c s7
  ·exact jo (Oa u) λ_=>jo (Oa t) λ_=>aB Iy λ_=>av s7
 ·exact aD
end
structure dW where
 fs:XG->Bool
 ms:String->Bool
 ng:Nat
def Ac:Nat->D_->Bool
 |0,_=>E_
 |_+1,.bool _|_+1,.int ..|_+1,.float ..|_+1,.complex ..|_+1,.string _|_+1,.nilFunc|_+1,.nilIface=>G_
 |_+1,.pointer B_|_+1,.slice B_ _ _|_+1,.map B_|_+1,.chan B_=>G_
 |n+1,.iface _ v=>Ac n v
 |n+1,.agg cs=>cs.toList.all (Ac n)
 |n+1,.tuple cs=>cs.toList.all (Ac n)
 |_+1,_=>E_
def yI(L:dW):XO->Bool
 | .tmp _=>G_
 | .const v=>Ac 9 v
 | .global g=>decide (g<L.ng)
 | .func f=>L.fs f
def aF0(L:dW):Callee->Bool
 | .builtin b=>okB b
 | .invoke _ n=>L.ms n
 | .value _=>G_
def aF1(L:dW):Fn->Bool
 | .func f=>L.fs f
 | .via _ _ f _=>L.fs f
 | .method n=>L.ms n
 | .methodOf _ n=>L.ms n
 | .yield _=>E_
def nU(L:dW)(o:Oper):Bool:=
 o.op.operands.toList.all (yI L)&& match o.op with
 | .call c| .defer c=>aF0 L c.callee
 | .makeFunc g _ _=>aF1 L g
 | .convert s d _=>s != d
 | .go _| .send ..| .recv ..| .select ..| .makeChan ..| .ready ..| .waits ..| .mapEntry ..| .entryStore ..| .sliceToArrayPointer .. =>E_
 |_=>G_
def fH(L:dW):Code->Bool
 | .skip| .exit _| .label _| .goto _| .ret| .refuse _=>G_
 | .region _ ops _=>ops.toList.all (nU L)
 | .seq a b=>fH L a&& fH L b
 | .cond c a b=>yI L c&& fH L a&& fH L b
 | .block _ c| .loop c| .scope c=>fH L c
 | .rangeFunc f _ a b=>yI L f&& fH L a&& fH L b
def aF2:∀(n:Nat) (v:D_),Ac n v=G_->val π v=v:=by
 intro n
 induction n with
 |zero=>intro v h;cases h
 |succ n ih=>
  have b:∀cs:Array D_,cs.toList.all (Ac n)=G_->vals π cs=cs:=by
   intro cs h;apply YA;rw[rC];rw[List.all_eq_true]at h;have:=List.map_congr_left λx d=>ih x (h x d)
   simpa using this
  intro v h;cases v with
  |pointer a=>
   cases a
   ·simp
   ·cases h
  |slice a l c=>
   cases a
   ·simp
   ·cases h
  |map a=>
   cases a
   ·simp
   ·cases h
  |chan a=>
   cases a
   ·simp
   ·cases h
  |iface t v=>rw[fM,ih v h]
  |agg cs=>rw[fq,b cs h]
  |tuple cs=>rw[gN,b cs h]
  |func=>cases h
  |_=>simp
def nN(π:Ren)(e:PanicEntry):PanicEntry:={ e with v:=val π e.v }
def mode(π:Ren):FrameMode->FrameMode
 | .panicking c=>.panicking (c.map (nN π))
 |m=>m
def item(π:Ren):Item->Item
 | .code c=>.code (π.c c)
 | .inBlock i=>.inBlock i
 | .inLoop c=>.inLoop (π.c c)
 | .inScope c=>.inScope (π.c c)
 | .inRegion ops l=>match π.c (.region 0 ops E_)with| .region _ ops _=>.inRegion ops l|_=>.code .ret
 | .inRangeFunc l=>.inRangeFunc (π.b l)
 | .endRangeFunc l=>.endRangeFunc (π.b l)
 | .beginRound=>.beginRound
 | .call d w r s=>if π.bad .print then .code .ret else .call (deferred π d) w r (vals π s)
 | .extern r a=>if π.bad .print then .code .ret else .extern r (vals π a)
def frame(π:Ren)(fr:I_):I_:={ fn:=π.f fr.fn,tmps:=vals π fr.tmps,todo:=fr.todo.map (item π),defers:=fr.defers.map (deferred π),mode:=mode π fr.mode,kind:=fr.kind,roundOf:=fr.roundOf.map π.b }
def loc(π:Ren)(wr:Bool):Loc->Loc
 | .cell a=>if π.vg a.block then .goroutines else .cell { a with block:=if wr then π.wb a.block else π.b a.block }
 | .obj r=>if π.vg r then .goroutines else .obj (if wr then π.wb r else π.b r)
 | .mark m=>if pJ m then .mark m else if π.bad .print then .output else .mark (mark π m)
 | .goroutines=>if π.bad .print then .output else .goroutines
 | .output=>.output
def ev(π:Ren)(e:K_):K_:={ e with loc:=loc π e.write e.loc }
def evs(π:Ren)(es:Array K_):Array K_:=es.map (ev π)
def Cr:val π undef=undef:=by simp[undef]
def execOp_congr{ρ':XO->D_}(p:∀cs b,o.op≠.select cs b)(h:∀x∈o.op.operands,ρ x=ρ' x):XQ ρ o=XQ ρ' o:=by
 unfold XQ
 have i:∀c:Call,∀t,(∀x∈c.operands,ρ x=ρ' x)->resolve ρ c t=resolve ρ' c t:=by
  intro c t j;unfold resolve;have k:=Tw λx d=>j x (by unfold Call.operands;exact Xi.2 (.inr d))
  rw[k];cases hcal:c.callee<;>dsimp only
  ·next f=>rw[j f (by unfold Call.operands;rw[hcal];simp)]
  ·next r n=>rw[j r (by unfold Call.operands;rw[hcal];simp)]
 cases hop:o.op<;>rw[hop]at h<;>dsimp only
 case select cs b=>exact absurd hop (p cs b)
 case call c=>rw[i c _ h]
 case go c=>rw[i c _ h]
 case defer c=>rw[i c _ h]
 case build t ps=>
  have e:ps.map (λx=>(x.1,ρ x.2))=ps.map (λx=>(x.1,ρ' x.2)):=Tw λx d=>by rw[h x.2 (by simp[YP];exact⟨x.1,by simpa using d⟩)]
  rw[e]
 case buildSlice t n ps=>
  have e:ps.map (λx=>(x.1,ρ x.2))=ps.map (λx=>(x.1,ρ' x.2)):=Tw λx d=>by rw[h x.2 (by simp[YP];exact⟨x.1,by simpa using d⟩)]
  rw[e]
 case makeFunc g a b=>
  have e1:=Tw λx d=>h x (Xi.2 (.inl d))
  have e2:=Tw λx d=>h x (Xi.2 (.inr d))
  rw[e1,e2]
 case makeMap t r=>
  have e:r.map ρ=r.map ρ':=by
   cases r
   ·rfl
   ·simp only[Si];rw[h _ (by simp[YP])]
  rw[e]
 case slice t x l u m=>
  have e:∀r:Option XO,(∀y,r=A_ y->ρ y=ρ' y)->r.map ρ=r.map ρ':=by
   intro r i;cases r
   ·rfl
   ·simp only[Si];rw[i _ rfl]
  rw[h x (by simp[YP]),e l (by rintro y rfl;exact h y (by simp[YP])),e u (by rintro y rfl;exact h y (by simp[YP])),e m (by rintro y rfl;exact h y (by simp[YP]))]
 all_goals simp only[YP,List.mem_toArray,List.mem_cons,List.not_mem_nil,or_false,forall_eq,forall_eq_or_imp]at h
 all_goals first|rfl|simp only[h]
def mover(L:dW):Ren:=
 { b:=id,f:=λf=>if L.fs f then f else f+1,m:=λn=>if L.ms n then n else n++ "x",bad:=λb=>!okB b,c:=λc=>if fH L c then c else .ret,fs:=λf=>L.fs f=G_,ms:=λn=>L.ms n=G_,asym:=E_,wb:=id }
structure Fit(P:TB)(L:dW)(π:Ren):Prop where
 ok:Ok P π
 ext:Ext P π
 fs:∀f,π.fs f↔L.fs f=G_
 ms:∀n,π.ms n↔L.ms n=G_
 ng:L.ng<=P.globals.size
 bad:∀b,okB b=G_->π.bad b=E_
 code:∀c,fH L c=G_->π.c c=c
structure rJ(P:TB)(L:dW):Prop where
 body:∀f fn c,L.fs f=G_->P.funcs[f]? = A_ fn->fn.body=A_ c->fH L c=G_
 inits:∀f,L.fs f=G_->P.inits.idxOf? f=B_
variable {L:dW}
def Fit.f(F:Fit P L π){f:XG}(h:L.fs f=G_):π.f f=f:=F.ok.fs f ((F.fs f).2 h)
def Br(F:Fit P L π){x:XO}(h:yI L x=G_):(frame π fr).eval x=val π (fr.eval x):=by
 cases x with
 |tmp t=>
  simp only[Frame.eval,frame,VW,iw];cases fr.tmps[t]?<;>simp[Cr]
 |const v=>exact(aF2 9 v h).symm
 |global g=>
  have a:g<L.ng:=by simpa[yI]using h
  have:=F.ng;simp[Frame.eval,addr,F.ok.fix g o7]
 |func f=>simp[Frame.eval,fn,F.f h]
def wX(L:dW):Item->Bool
 | .code c| .inLoop c| .inScope c=>fH L c
 | .inRegion ops _=>ops.toList.all (nU L)
 | .call ..| .extern .. =>E_
 |_=>G_
def MV(h:(mover L).c c=c):fH L c=G_:=by
 unfold mover at h;dsimp only at h;split at h
 ·assumption
 ·subst h;rfl
def bAx{x:Item}(h:item (mover L) x=x):wX L x=G_:=by
 cases x with
 |code c=>exact MV (by simpa[item]using h)
 |inLoop c=>exact MV (by simpa[item]using h)
 |inScope c=>exact MV (by simpa[item]using h)
 |inRegion ops l=>
  simp only[item,mover]at h
  by_cases hk:fH L (.region 0 ops E_)=G_
  ·exact hk
  ·rw[RD hk]at h;simp at h
 |call d w r s=>simp[item,mover,okB]at h
 |extern r a=>simp[item,mover,okB]at h
 |_=>rfl
def tT(F:Fit P L π)(h:fH L c=G_):item π (.code c)=.code c:=by simp[item,F.code c h]
def Mk(F:Fit P L π)(h:fH L c=G_):item π (.inLoop c)=.inLoop c:=by simp[item,F.code c h]
def GY(F:Fit P L π)(h:fH L c=G_):item π (.inScope c)=.inScope c:=by simp[item,F.code c h]
def zV(F:Fit P L π){a:Array Oper}{l:List Nat}(h:a.toList.all (nU L)=G_):item π (.inRegion a l)=.inRegion a l:=by simp[item,F.code (.region 0 a E_) h]
def bAw(F:Fit P L π)(h:aF1 L g=G_):zi π g/\fn π g=g:=by
 cases g with
 |func f=>exact⟨(F.fs f).2 h,by simp[fn,F.f h]⟩
 |via t p f q=>exact⟨(F.fs f).2 h,by simp[fn,F.f h]⟩
 |method n=>exact⟨(F.ms n).2 h,by simp[fn,F.ok.ms n ((F.ms n).2 h)]⟩
 |methodOf t n=>exact⟨(F.ms n).2 h,by simp[fn,F.ok.ms n ((F.ms n).2 h)]⟩
 |yield l=>cases h
def aCc(F:Fit P L π)(h:fn (mover L) g=g):zi π g:=by
 cases g with
 |func f=>
  have:(if L.fs f then f else f+1)=f:=by simpa[fn,mover]using h
  by_cases a:L.fs f=G_
  ·exact(F.fs f).2 a
  ·rw[RD a]at this;exact absurd this (Nat.succ_ne_self f)
 |via t p f q=>
  have:(if L.fs f then f else f+1)=f:=by simpa[fn,mover]using h
  by_cases a:L.fs f=G_
  ·exact(F.fs f).2 a
  ·rw[RD a]at this;exact absurd this (Nat.succ_ne_self f)
 |method n=>
  have:(if L.ms n then n else n++ "x")=n:=by simpa[fn,mover]using h
  by_cases a:L.ms n=G_
  ·exact(F.ms n).2 a
  ·rw[RD a]at this;have:=RJ String.length this;simp at this
 |methodOf t n=>
  have:(if L.ms n then n else n++ "x")=n:=by simpa[fn,mover]using h
  by_cases a:L.ms n=G_
  ·exact(F.ms n).2 a
  ·rw[RD a]at this;have:=RJ String.length this;simp at this
 |yield l=>trivial
def bHd(F:Fit P L π){t:Target}(h:target (mover L) t=t)(d:∀c,t≠.coroexit c):vN π t:=by
 cases t with
 |fn g c=>exact aCc F (by simp only[target,Target.fn.injEq]at h;exact h.1)
 |builtin b ts t cs=>
  cases hb:okB b
  ·have a:(mover L).bad b=G_:=by simp[mover,hb]
   simp[target,a]at h
  ·exact⟨hb,F.bad b hb⟩
 |nil=>trivial
 |collected r=>trivial
 |coroexit c=>exact absurd rfl (d c)
def foldl_rel{α α' β γ:Type}{f:β->α->β}{f':γ->α'->γ}{R:β->γ->Prop}{g:α->α'}(h:∀b c x,R b c->R (f b x) (f' c (g x))):∀(l:List α) (b:β) (c:γ),R b c->R (l.foldl f b) ((l.map g).foldl f' c)
 |[],_,_,hr=>hr
 |x::l,b,c,hr=>foldl_rel h l _ _ (h b c x hr)
def kS(fn:XG)(es:Array K_):seen P fn (evs π es)=evs π (seen P fn es):=by
 unfold seen evs;dsimp only;rw[<-Yd,<-Yd,Array.toList_map];refine(foldl_rel (R:=λ(x y:Bool×Array K_)=>y.1=x.1/\y.2=x.2.map (ev π)) ?_ es.toList _ _ ⟨rfl,by simp⟩).2;rintro⟨q,k⟩ ⟨q',c⟩ ⟨l,wr,b⟩ ⟨h1,h2⟩;dsimp only at h1 h2;subst h1 h2;cases l with
 |mark m=>cases m<;>cases q'<;>cases b<;>cases hb:π.bad .print<;>simp[ev,loc,mark,pJ,hb]
 |cell a=>cases hv:π.vg a.block<;>cases q'<;>cases b<;>simp[ev,loc,hv]
 |obj r=>cases hv:π.vg r<;>cases q'<;>cases b<;>simp[ev,loc,hv]
 |goroutines=>cases hv:π.bad .print<;>cases q'<;>cases b<;>simp[ev,loc,hv]
 |output=>cases q'<;>cases b<;>simp[ev,loc]
def IV(fr:I_)(vs:List PanicEntry):frame π (fr.raise vs)=(frame π fr).raise (vs.map (nN π)):=by
 unfold Frame.raise;cases h:fr.mode<;>simp[frame,mode,h]
def Dq(F:Fit P L π)(fr:I_)(v:D_)(h:∀x∈fr.todo,wX L x=G_):frame π (fr.finish v)=(frame π fr).finish (val π v):=by
 unfold Frame.finish;cases ht:fr.todo with
 |nil=>simp[frame,ht]
 |cons x k=>
  rw[ht]at h;have a:=h x s7;cases x with
  |inRegion ops l=>
   have e:=λl=>zV F (l:=l) a
   cases l with
   |nil=>simp[frame,ht,e]
   |cons i l=>
    simp only[frame,ht,RY,e];cases(ops[i]?).bind (·.dst)<;>simp
  |call=>cases a
  |extern=>cases a
  |_=>simp[frame,ht,item]
def aTa(id:Nat)(k:List Item):exitTo id (k.map (item π))=(exitTo id k).map (·.map (item π)):=by
 induction k with
 |nil=>rfl
 |cons x k ih=>
  cases x with
  |inBlock i=>
   simp only[RY,item,exitTo];split
   ·rfl
   ·exact ih
  |inRegion ops l=>
   simp only[RY,item,exitTo];split<;>exact ih
  |call d w r s=>simp only[RY,item];split<;>(simp only[exitTo];exact ih)
  |extern r a=>simp only[RY,item];split<;>(simp only[exitTo];exact ih)
  |_=>simp only[RY,item,exitTo];exact ih
def bAv(c:Code)(l:Nat)(r:Code)(d:fH L c=G_)(h:findLabel c l=A_ r):fH L r=G_:=by
 induction c generalizing r with
 |seq a b iha ihb=>
  simp only[fH,Bool.and_eq_true]at d;simp only[findLabel]at h;split at h
  ·next r' hr=>
   cases h;simp[fH,iha r' d.1 hr,d.2]
  ·exact ihb r d.2 h
 |label l'=>
  simp only[findLabel]at h;split at h
  ·cases h;rfl
  ·cases h
 |_=>simp[findLabel]at h
def aU8(F:Fit P L π)(l:Nat)(k:List Item)(h:∀x∈k,wX L x=G_):gotoIn l (k.map (item π))=(gotoIn l k).map (·.map (item π)):=by
 induction k with
 |nil=>rfl
 |cons x k b=>
  have b:=b λx a=>h x (by simp[a])
  have a:=h x s7;cases x with
  |inScope c=>
   simp only[RY,gotoIn];rw[GY F a];simp only[gotoIn];cases hl:findLabel c l with
   |none=>exact b
   |some r=>simp[tT F (bAv c l r a hl),GY F a]
  |inRegion ops i=>
   rw[RY,zV F a];simp only[gotoIn];exact b
  |call=>cases a
  |extern=>cases a
  |_=>simp only[RY,item,gotoIn];exact b
def Dn(F:Fit P L π)(G:rJ P L){f:XG}{k:CallKind}(b:L.fs f=G_):frame π (Frame.enter P f args k)=Frame.enter P f (vals π args) k:=by
 unfold Frame.enter
 have d:π.c (((P.funcs[f]?).bind (·.body)).getD (.refuse "unsupported: a function without a Go body is entered"))=((P.funcs[f]?).bind (·.body)).getD (.refuse "unsupported: a function without a Go body is entered"):=by
  apply F.code;cases hfn:P.funcs[f]? with
  |none=>rfl
  |some fn=>
   cases hb:fn.body with
   |none=>simp[hb,fH]
   |some c=>simpa[hb]using G.body f fn c b hfn hb
 simp only[frame,uH,vG,F.f b,RY,TV,item,d,mode,XH]
 congr 1
 congr 1
 unfold vals;rw[Array.map_replicate];rw[Cr]
def aHk{l:Nat}{f:XG}{a b:Code}{k:CallKind}:frame π (Frame.round l f tmps a b k)=Frame.round (π.b l) (π.f f) (vals π tmps) (π.c a) (π.c b) k:=by
 simp[Frame.round,frame,item,mode]
def aYf{f g:α->Sem D_}(h:∀a,VR P π (f a) (g a))(l:List α):aC P π (λr r'=>r'=r.map (val π)) (l.mapM f) (l.mapM g):=by
 induction l with
 |nil=>exact av rfl
 |cons a l ih=>
  have:=lmS;rw[z_,z_];refine cK (h a) λv=>TS ih λr r' e=>?_
  subst e;exact av rfl
def Gv(tmps:Array D_)(t:Nat):(vals π tmps).getD t undef=val π (tmps.getD t undef):=by
 simp only[VW,iw];cases tmps[t]?<;>simp[Cr]
def Oh(H:Ok P π){fn:Func}:VR P π (results fn tmps) (results fn (vals π tmps)):=by
 unfold results;have:=lmS;rw[Ym,Ym];refine TS (A:=λr r'=>r'=vals π r) (TS (aYf (λx=>?_) _) λr r' e=>?_) λvs c e=>?_
 ·cases x with
  |tmp t=>exact av (Gv _ _)
  |cell a t=>dsimp only;rw[Gv];exact fA (zu H) λa=>rZ
 ·subst e;exact av (by apply YA;simp)
 ·subst e;refine av ?_
  by_cases h:vs.size=1
  ·have b:(vals π vs).size=1:=by simpa using h
   rw[dif_pos h,dif_pos b];simp[vals]
  ·have b:¬(vals π vs).size=1:=by simpa using h
   rw[dif_neg h,dif_neg b,gN]
def bI8(a:Array Oper)(tmps:Array D_)(j:Nat):yielded a (vals π tmps) j=yielded a tmps j:=by
 unfold yielded;cases(a[j]?).bind (·.dst)with
 |none=>rfl
 |some d=>
  simp only[Option.bind_some,iw];cases tmps[d]? with
  |none=>rfl
  |some v=>cases v<;>simp
def Pj(C:List I_):∀(cs:List I_) (fr:I_),((fr::cs).getLast s7).kind=.normal->
  tryRecover (frame π fr) (cs.map (frame π)++C)=(tryRecover fr cs).map λx=>(val π x.1,x.2.map (frame π)++C):=by
 intro cs
 induction cs with
 |nil=>
  intro fr h;have hk:fr.kind=.normal:=h;have a:(frame π fr).kind=.normal:=hk;unfold tryRecover;rw[hk,a];rfl
 |cons c cs ih=>
  intro fr h;have b:((c::cs).getLast s7).kind=.normal:=by simpa using h
  have d:(frame π fr).kind=fr.kind:=rfl;unfold tryRecover;rw[d];cases hk:fr.kind<;>simp only[RY,TP]<;>try rfl
  ·have f:(frame π c).mode=mode π c.mode:=rfl;rw[f];cases hcm:c.mode with
   |panicking ch=>
    cases ch with
    |nil=>rfl
    |cons e ch=>
     obtain⟨v,r,g⟩:=e;cases r<;>cases g<;>simp[mode,nN,frame,hcm]
   |_=>rfl
  ·rw[ih c b];cases tryRecover c cs<;>simp
def bHs(H:Ok P π)(C:List I_)(q:∀f∈C,∀l k,f.todo≠.inRangeFunc l::k):∀(cs:List I_) (l:Nat),(∀h:cs≠[],(cs.getLast h).kind=.normal)->
  tryRecoverLoop (π.b l) (cs.map (frame π)++C)=(tryRecoverLoop l cs).map λx=>(val π x.1,x.2.map (frame π)++C):=by
 have B_:∀(C:List I_) (l:Nat),(∀f∈C,∀l k,f.todo≠.inRangeFunc l::k)->tryRecoverLoop l C=B_:=by
  intro C
  induction C with
  |nil=>intro l _;rfl
  |cons f C ih=>
   intro l h;unfold tryRecoverLoop;have:=ih l λg t=>h g (by simp[t])
   cases m:f.todo with
   |nil=>simp[this]
   |cons x k=>
    cases x with
    |inRangeFunc l'=>exact absurd m (h f s7 l' k)
    |_=>simp[this]
 intro cs
 induction cs with
 |nil=>intro l _;simp only[TV,List.nil_append];rw[B_ C _ q];rfl
 |cons c cs ih=>
  intro l h
  have p:∀h:cs≠[],(cs.getLast h).kind=.normal:=λj=>by
   have:=h s7
   rwa[List.getLast_cons j]at this
  have e:=λl=>ih l p
  simp only[RY,TP];unfold tryRecoverLoop;have m:(frame π c).todo=c.todo.map (item π):=rfl;have u:(frame π c).roundOf=c.roundOf.map π.b:=rfl;rw[m,u];cases hct:c.todo with
  |nil=>simp only[TV];rw[e];cases tryRecoverLoop l cs<;>simp
  |cons x k=>
   cases x with
   |inRangeFunc l'=>
    simp only[RY,item];cases c.roundOf with
    |none=>
     simp only[XH];rw[nat_eq H]
     by_cases n:(l' == l)=G_
     ·simp only[n,if_true];rw[Pj C cs c (h s7)];cases tryRecover c cs<;>simp
     ·simp only[n,if_false,SE];rw[e];cases tryRecoverLoop l cs<;>simp
    |some o=>
     simp only[Si];rw[nat_eq H,show(if(l' == l)=G_ then π.b o else π.b l)=π.b (if(l' == l)=G_ then o else l) by split<;>rfl,e];cases tryRecoverLoop (if(l' == l)=G_ then o else l) cs<;>simp
   |inRegion ops i=>
    cases hpc:π.c (.region 0 ops E_)<;>simp only[RY,item,hpc]<;>(rw[e];cases tryRecoverLoop l cs<;>simp)
   |call d w r s=>simp only[RY,item];by_cases hp:π.bad .print=G_<;>simp only[hp,if_true,if_false,SE]<;>(rw[e];cases tryRecoverLoop l cs<;>simp)
   |extern r a=>simp only[RY,item];by_cases hp:π.bad .print=G_<;>simp only[hp,if_true,if_false,SE]<;>(rw[e];cases tryRecoverLoop l cs<;>simp)
   |_=>simp only[RY,item];rw[e];cases tryRecoverLoop l cs<;>simp
def left{α:Type}:Result α->C_
 | .ok _ w=>w
 | .halt _ w=>w
def Il{α:Type}:Result α->Prop
 | .ok _ _=>True
 | .halt h _=>sw h=G_
def Jt(w:C_):w.sys .env=(.strings w.os.env,w):=by
 unfold World.sys;rfl
def aFk(hn:∀(b:Nat) (o:Obj),w.heap[b]? = A_ o->np o=G_)(a:J_)(s:String):sw (w.noCell a s)=G_/\∀v,w.noCell a s≠.panic v:=by
 unfold World.noCell;split
 ·next h=>have:=hn _ _ h;cases this
 ·exact⟨rfl,λv e=>by cases e⟩
 ·exact⟨rfl,λv e=>by cases e⟩
def Li(hn:∀(b:Nat) (o:Obj),w.heap[b]? = A_ o->np o=G_)(a:J_)(x:Bool)(e:w.farLoad P a x=.error h):sw h=G_/\∀v,h≠.panic v:=by
 unfold World.farLoad at e;split at e
 ·split at e
  ·cases e
  ·cases e;exact⟨rfl,λv e=>by cases e⟩
 ·cases e;exact aFk hn a _
def Ll(hn:∀(b:Nat) (o:Obj),w.heap[b]? = A_ o->np o=G_)(a:J_)(v:D_)(x:Bool)(e:w.farStore P a v x=.error h):sw h=G_/\∀v,h≠.panic v:=by
 unfold Wp at e;split at e
 ·split at e
  ·cases e
  ·cases e;exact⟨rfl,λv e=>by cases e⟩
 ·cases e;exact aFk hn a _
def NP(w:C_):Prop:=∀(b:Nat) (o:Obj),w.heap[b]? = A_ o->np o=G_
def NP.set(h:NP w){r:Nat}{o:Obj}(ho:np o=G_):NP { w with heap:=w.heap.setIfInBounds r o }:=by
 intro b c a;simp only[Array.getElem?_setIfInBounds]at a;split at a
 ·first|(cases a;exact ho)|(split at a<;>first|(cases a;exact ho)|cases a)
 ·exact h b c a
def NP.push(h:NP w){o:Obj}(ho:np o=G_):NP { w with heap:=w.heap.push o }:=by
 intro b c a;simp only[Array.getElem?_push]at a;split at a
 ·cases a;exact ho
 ·exact h b c a
def NP.modify(h:NP w)(r:Nat)(f:Obj->Obj)(c:∀o,np o=G_->np (f o)=G_):NP { w with heap:=w.heap.modify r f }:=by
 intro b d a;simp only[Array.getElem?_modify]at a;split at a
 ·cases hx:w.heap[b]? with
  |none=>rw[hx]at a;cases a
  |some o=>rw[hx]at a;cases a;exact c o (h b o hx)
 ·exact h b d a
def NP.setCell(h:NP w)(a:J_)(v:D_):NP (w.setCell a v):=h.modify _ _ λo ho=>by cases o<;>first|rfl|exact ho
def NP.freeze{w:C_}(h:NP w)(a:J_)(n:Nat):NP (w.freeze a n):=by
 unfold VY;split
 ·exact h
 ·exact h.modify _ _ λo ho=>by cases o<;>first|rfl|exact ho
def bIg{a k:J_}{x:Bool}{t:List J_}(hn:NP w)(h:w.viewStore P a u k v x=.ok (w1,t)):w1.heap.size=w.heap.size/\w1.drawn=w.drawn/\NP w1:=by
 unfold Wt at h;simp only[bind,Except.bind]at h
 repeat'(first|(cases h;done)|split at h)
 all_goals(cases h;exact⟨by simp,rfl,hn.set rfl⟩)
def Lj{a:J_}{x:Bool}{t:List J_}(hn:NP w)(h:w.farStore P a v x=.ok (w1,t)):w1.heap.size=w.heap.size/\w1.drawn=w.drawn/\NP w1:=by
 unfold Wp at h;split at h
 ·split at h
  ·next r hv=>cases h;exact bIg hn hv
  ·cases h
 ·cases h
structure Lone{α:Type}(w:C_)(x:Result α):Prop where
 ok:Il x
 size:w.heap.size<=(left x).heap.size
 drawn:w.drawn<=(left x).drawn
 np:NP (left x)
def Lone.step{α:Type}{w w1:C_}{x:Result α}(h:Lone w1 x)(b:w.heap.size<=w1.heap.size)(a:w.drawn<=w1.drawn):Lone w x:=⟨h.ok,RV b h.size,RV a h.drawn,h.np⟩
def bEa(c:π.asym=E_)(b:π.lax=E_)(h:aC P π A s s'):∀(w:C_) (es:Array K_),NP w->Lone w (s.runT P w es).1:=by
 have d:∀r,π.gh r=E_:=λr=>by
  cases h:π.gh r
  ·rfl
  ·have:=π.hgh r h;rw[b]at this;cases this
 induction h with
 |pure ha=>intro w es hn;exact⟨trivial,RQ _,RQ _,hn⟩
 |bad a=>rw[c]at a;cases a
 |nil a=>rw[b]at a;cases a
 |xu a=>have:=π.hgh _ a;rw[b]at this;cases this
 |uT a=>have:=π.hgh _ a;rw[b]at this;cases this
 |vD a=>rw[c]at a;cases a
 |wN a=>rw[c]at a;cases a
 |bH a=>rw[c]at a;cases a
 |halt hk=>intro w es hn;exact⟨hk,RQ _,RQ _,hn⟩
 |program _ ih=>intro w es hn;exact ih w es hn
 |mark _ _ ih=>intro w es hn;exact ih w _ hn
 |sys _ ih=>intro w es hn;simp only[Tm,Jt];exact ih _ w _ hn
 |@choose q k k' _ ih=>
  intro w es hn;simp only[Tm];split
  ·exact ih _ _ _ hn
  ·exact(ih _ { w with drawn:=w.drawn+1 } _ hn).step (RQ _) (Nat.le_succ _)
 |shape _ _ ih=>intro w es hn;exact ih _ w es hn
 |frozen _ _ ih=>intro w es hn;exact ih _ _ (λ_=>rfl) id w es hn
 |@freeze a n k _ _ _ ih=>
  intro w es hn;simp only[Tm];refine(ih _ es (hn.freeze a n)).step ?_ ?_
  ·unfold VY;split<;>simp
  ·unfold VY;split<;>exact RQ _
 |@load mo a k _ _ ih=>
  intro w es hn;simp only[Tm];cases w.cell? a with
  |some v=>exact ih _ w _ hn
  |none=>
   cases hf:w.farLoad P a (mo == .atomic)with
   |error h=>exact⟨(Li hn a _ hf).1,RQ _,RQ _,hn⟩
   |ok r=>exact ih _ w _ hn
 |@store mo a v k _ _ ih=>
  intro w es hn;cases v<;>simp only[Tm]
  case agg=>exact⟨rfl,RQ _,RQ _,hn⟩
  case tuple=>exact⟨rfl,RQ _,RQ _,hn⟩
  all_goals
   cases w.cell? a with
   |some x=>
    simp only;split
    ·exact⟨rfl,RQ _,RQ _,hn⟩
    ·exact(ih _ _ (hn.setCell a _)).step (by simp[World.setCell]) (RQ _)
   |none=>
    simp only;split
    ·next r hf=>
     have:=Lj hn hf;exact(ih _ _ this.2.2).step (by rw[this.1];exact RQ _) (by rw[this.2.1];exact RQ _)
    ·next h hf=>exact⟨(Ll hn a _ _ hf).1,RQ _,RQ _,hn⟩
 |@new o k _ ho _ ih=>
  intro w es hn;exact(ih _ (d _) _ es (hn.push ho)).step s7 (RQ _)
 |@getObj r k _ _ ih=>
  intro w es hn;simp only[Tm];cases hb:w.heap[r]? with
  |none=>exact⟨rfl,RQ _,RQ _,hn⟩
  |some o=>
   have ho:=hn r o hb;cases o<;>first|exact⟨rfl,RQ _,RQ _,hn⟩|exact ih _ ho w _ hn
 |@setObj r o k _ ho _ ih=>
  intro w es hn;simp only[Tm];cases hb:w.heap[r]? with
  |none=>exact⟨rfl,RQ _,RQ _,hn⟩
  |some o'=>
   cases o'<;>first|exact⟨rfl,RQ _,RQ _,hn⟩|exact(ih _ _ (hn.set ho)).step s7 (RQ _)
def bD9(f:π.asym=E_)(d:π.lax=E_)(h:aC P π A s s'):∀(w w1:C_) (es c:Array K_) (a:α),NP w->s.runT P w es=(.ok a w1,c)->∃b,A a b:=by
 have g:∀r,π.gh r=E_:=λr=>by
  cases h:π.gh r
  ·rfl
  ·have:=π.hgh r h;rw[d]at this;cases this
 induction h with
 |pure ha=>intro w w1 es c a hn e;cases e;exact⟨_,ha⟩
 |bad a=>rw[f]at a;cases a
 |nil a=>rw[d]at a;cases a
 |xu a=>have:=π.hgh _ a;rw[d]at this;cases this
 |uT a=>have:=π.hgh _ a;rw[d]at this;cases this
 |vD a=>rw[f]at a;cases a
 |wN a=>rw[f]at a;cases a
 |bH a=>rw[f]at a;cases a
 |halt hk=>intro w w1 es c a hn e;cases e
 |program _ ih=>intro w w1 es c a hn e;exact ih w w1 es c a hn e
 |mark _ _ ih=>intro w w1 es c a hn e;exact ih w w1 _ c a hn e
 |sys _ ih=>intro w w1 es c a hn e;simp only[Tm,Jt]at e;exact ih _ w w1 _ c a hn e
 |choose _ ih=>
  intro w w1 es c a hn e;simp only[Tm]at e;split at e
  ·exact ih _ _ w1 _ c a hn e
  ·exact ih _ { w with drawn:=w.drawn+1 } w1 _ c a hn e
 |shape _ _ ih=>intro w w1 es c a hn e;exact ih _ w w1 es c a hn e
 |frozen _ _ ih=>intro w w1 es c a hn e;exact ih _ _ (λ_=>rfl) id w w1 es c a hn e
 |freeze _ _ ih=>intro w w1 es c a hn e;exact ih _ w1 es c a (hn.freeze _ _) e
 |@load mo ad k _ _ ih=>
  intro w w1 es c a hn e;simp only[Tm]at e;split at e
  ·exact ih _ w w1 _ c a hn e
  ·split at e
   ·exact ih _ w w1 _ c a hn e
   ·cases e
 |@store mo ad v k _ _ ih=>
  intro w w1 es c a hn e;cases v<;>simp only[Tm]at e
  case agg=>cases e
  case tuple=>cases e
  all_goals
   split at e
   ·split at e
    ·cases e
    ·exact ih _ w1 _ c a (hn.setCell _ _) e
   ·split at e
    ·next r hf=>exact ih _ w1 _ c a (Lj hn hf).2.2 e
    ·cases e
 |new ho _ ih=>intro w w1 es c a hn e;exact ih _ (g _) _ w1 es c a (hn.push ho) e
 |@getObj r k _ _ ih=>
  intro w w1 es c a hn e;simp only[Tm]at e;cases hb:w.heap[r]? with
  |none=>rw[hb]at e;cases e
  |some o=>
   rw[hb]at e;have ho:=hn r o hb;cases o<;>first|(cases e;done)|exact ih _ ho w w1 _ c a hn e
 |@setObj r o k _ ho _ ih=>
  intro w w1 es c a hn e;simp only[Tm]at e;cases hb:w.heap[r]? with
  |none=>rw[hb]at e;cases e
  |some o'=>
   rw[hb]at e;cases o'<;>first|(cases e;done)|exact ih _ w1 _ c a (hn.set ho) e
def CO(P:TB){α:Type}(s:Sem α):Prop:=∀(w:C_) (es:Array K_),NP w->Lone w (s.runT P w es).1
structure Qh(P:TB){α γ:Type}(s:Sem α)(f:α->Sem γ):Prop where
 one:CO P s
 two:∀w w1 es es1 a,NP w->s.runT P w es=(.ok a w1,es1)->CO P (f a)
def sJ(b:π.asym=E_)(a:π.lax=E_)(h:aC P π A s s'):CO P s:=λw es hn=>bEa b a h w es hn
def bG8(d:π.asym=E_)(c:π.lax=E_){δ:Type}{B:γ->δ->Prop}{f:α->Sem γ}{f':β->Sem δ}(h:aC P π A s s')(hk:∀a b,A a b->aC P π B (f a) (f' b)):Qh P s f:=
 ⟨sJ d c h,λw w1 es g a hn e=>by
  obtain⟨b,i⟩:=bD9 d c h w w1 es g a hn e;exact sJ d c (hk a b i)⟩
def aI8(a:α):CO P (.pure a:Sem α):=λ_ _ hn=>⟨trivial,RQ _,RQ _,hn⟩
def bIi{a k:J_}{x:Bool}{t:List J_}(h:w.viewStore P a u k v x=.ok (w1,t)):w1.heap.size=w.heap.size/\w1.drawn=w.drawn:=by
 unfold Wt at h;simp only[bind,Except.bind]at h
 repeat'(first|(cases h;done)|split at h)
 all_goals(cases h;exact⟨by simp,rfl⟩)
def aTr{a:J_}{x:Bool}{t:List J_}(h:w.farStore P a v x=.ok (w1,t)):w1.heap.size=w.heap.size/\w1.drawn=w.drawn:=by
 unfold Wp at h;split at h
 ·split at h
  ·next r hv=>cases h;exact bIi hv
  ·cases h
 ·cases h
def Can(w:C_)(p:C_->Prop):Prop:=∃τ:Nat->Question->Nat,(∀i,i<w.drawn->τ i=w.tape i)/\p { w with tape:=τ }
structure Fg(K:C_->(C_->Prop)->Prop):Prop where
 mono:∀{w:C_} {p q:C_->Prop},K w p->(∀w',p w'->q w')->K w q
 any:∀{w:C_} {p:C_->Prop},(∀w',p w')->K w p
def aE5:Fg Can:=⟨λ⟨τ,a,b⟩ h=>⟨τ,a,h _ b⟩,λh=>⟨_,λ_ _=>rfl,h _⟩⟩
def aYz:Fg (λw p=>p w):=⟨λa h=>h _ a,λh=>h _⟩
def Dead{α:Type}:Result α->Prop
 | .halt (.stuck _) _=>True
 |_=>False
def xM(Γ:C_->Prop)(π:Ren)(Q:C_->C_->Prop){α β:Type}(A:α->β->Prop)(x:Result α×Array K_)(y:Result β×Array K_):Prop:=
 match x.1 with
 | .ok a w=>Γ w->(π.vx=G_/\Dead y.1)\/∃b W,y=(.ok b W,evs π x.2)/\A a b/\Q w W
 | .halt (.panic v) w=>Γ w->(π.vx=G_/\Dead y.1)\/∃W,y=(.halt (.panic (val π v)) W,evs π x.2)/\Q w W
 | .halt h _=>sw h=G_
def Fq(Γ:C_->Prop)(P:TB)(π:Ren)(Q:C_->C_->Prop){α β γ δ:Type}(A:α->β->Prop)(B:γ->δ->Prop)(f:α->Sem γ)(f':β->Sem δ)(x:Result α×Array K_)(y:Result β×Array K_):Prop:=
 match x.1 with
 | .ok a w=>Il ((f a).runT P w #[]).1/\(Γ (left ((f a).runT P w #[]).1)->(π.vx=G_/\Dead y.1)\/∃b W,y=(.ok b W,evs π x.2)/\A a b/\xM Γ π Q B ((f a).runT P w #[]) ((f' b).runT P W #[]))
 | .halt (.panic v) w=>Γ w->(π.vx=G_/\Dead y.1)\/∃W,y=(.halt (.panic (val π v)) W,evs π x.2)/\Q w W
 | .halt h _=>sw h=G_
structure rO(K:C_->(C_->Prop)->Prop)(Γ:C_->Prop)(P:TB)(π:Ren)(Q:C_->C_->Prop):Prop where
 mY:Fg K
 two:∀{α β γ δ:Type} {A:α->β->Prop} {B:γ->δ->Prop} {s:Sem α} {s':Sem β} {f:α->Sem γ} {f':β->Sem δ} {w W:C_},
  aC P π A s s'->(∀a a',A a a'->aC P π B (f a) (f' a'))->Qh P s f->Q w W->K w λw'=>Fq Γ P π Q A B f f' (s.runT P w' #[]) (s'.runT P W #[])
def Bt:evs π #[]=#[]:=by simp[evs]
def Lg(a b:Array K_):evs π (a++b)=evs π a++evs π b:=by simp[evs]
def rO.one(S:rO K Γ P π Q)(h:aC P π A s s')(k:CO P s)(f:Q w W):K w λw'=>xM Γ π Q A (s.runT P w' #[]) (s'.runT P W #[]):=by
 refine S.mY.mono (S.two h (λa a' c=>aC.pure c) ⟨k,λ_ _ _ _ a _ _=>aI8 a⟩ f) λw' h2=>?_
 generalize s.runT P w' #[]=x at h2⊢;obtain⟨r,es⟩:=x;cases r with
 |ok a w1=>
  intro i;rcases h2.2 i with d|⟨b,j,e,c,h3⟩
  ·exact .inl d
  rcases h3 i with d|⟨b',l,g,_,f⟩
  ·cases d.2
  simp only[Tm,Bt,Prod.mk.injEq,Result.ok.injEq,and_true]at g;obtain⟨rfl,rfl⟩:=g;exact .inr ⟨b,j,e,c,f⟩
 |halt hh w1=>cases hh<;>exact h2
def rO.id(S:rO K Γ P π Q)(a:Q w W):K w λw'=>Γ w'->Q w' W:=by
 refine S.mY.mono (S.one (s':=Sem.pure ()) (A:=λ_ _=>True) (.pure trivial) (aI8 ()) a) λw' h2 c=>?_
 simp only[xM,Tm,Bt]at h2;rcases h2 c with b|⟨_,_,e,_,a⟩
 ·cases b.2
 simp only[Prod.mk.injEq,Result.ok.injEq,and_true]at e;obtain⟨_,rfl⟩:=e;exact a
def Pl(P:TB)(L:dW):Prop:=∃π0,Fit P L π0/\π0.asym=E_/\π0.lax=E_
def comp(π:Ren)(C:List I_)(g:H_):H_:={ frame:=frame π g.frame,callers:=g.callers.map (frame π)++C,status:=g.status,dying:=B_ }
def wQ:GStep->C_
 | .go _ w _| .comm _ _ _ _ w _| .spawn _ _ w _| .count _ w _| .timer _ _ w _| .alone _ _ w _| .newcoro _ _ _ w _| .coroswitch _ _ _ w _| .collect _ w _| .watch _ w _| .ended _ w _=>w
def zQ(es:Array K_)(x:GStep):wQ (Xe es x)=wQ x:=by cases x<;>rfl
def Over(P:TB):GStep->Prop
 | .ended .. =>True
 | .go g _ _=>g.dyingOn P
 |_=>False
def dM(P:TB)(Γ:C_->Prop)(π:Ren)(C:List I_)(Q:C_->C_->Prop)(x y:GStep):Prop:=
 Γ (wQ x)->Over P x\/(π.vx=G_/\∃o w es,y=.ended o w es)\/∃fr cs w es,x=.go { frame:=fr,callers:=cs,status:=.running,dying:=B_ } w es/\∃W,y=.go (comp π C { frame:=fr,callers:=cs,status:=.running,dying:=B_ }) W (evs π es)/\Q w W
def Over.after{x:GStep}(h:Over P x)(es:Array K_):Over P (Xe es x):=by cases x<;>exact h
def dM.after{x y:GStep}(h:dM P Γ π C Q x y)(es:Array K_):dM P Γ π C Q (Xe es x) (Xe (evs π es) y):=by
 intro b;rw[zQ]at b;rcases h b with ho|⟨hv,o,w,a,rfl⟩|⟨fr,cs,w,a,rfl,W,rfl,c⟩
 ·exact .inl (ho.after es)
 ·exact .inr (.inl ⟨hv,o,w,_,rfl⟩)
 ·exact .inr (.inr ⟨fr,cs,w,_,rfl,W,by simp[Xe,Lg],c⟩)
def Jl{o:Outcome}{es:Array K_}{y:GStep}:dM P Γ π C Q (.ended o w es) y:=λ_=>.inl trivial
def aGd(fr:I_)(a:List ByteArray)(m:String)(b:Bool)(w:C_):Over P (dieOf fr a m b w):=dieOf_okD fr a m b w
def uy{x y:GStep}(h:Over P x):dM P Γ π C Q x y:=λ_=>.inl h
def uw{x y:GStep}(h:¬Γ (wQ x)):dM P Γ π C Q x y:=λa=>absurd a h
def jA{g':H_}(b:Γ w->Q w W)(h:g'=comp π C { frame:=fr,callers:=cs,status:=.running,dying:=B_ }):dM P Γ π C Q (.go { frame:=fr,callers:=cs,status:=.running,dying:=B_ } w) (.go g' W):=
 λa=>.inr (.inr ⟨fr,cs,w,#[],rfl,W,by rw[h,Bt],b a⟩)
def bF8{x y:GStep}(hv:π.vx=G_)(h:∃o w es,y=.ended o w es):dM P Γ π C Q x y:=λ_=>.inr (.inl ⟨hv,h⟩)
def tH{p:Prop}{y:Result α×Array K_}(a:π.vx=G_/\Dead y.1)(k:π.vx=G_->∀h w es,Dead (.halt h w:Result α)->y=(.halt h w,es)->p:=by(intro b c g i d e;subst e;cases c<;>first|(cases d;done)|exact bF8 b ⟨_,_,_,rfl⟩)):p:=by
 obtain⟨hv,a⟩:=a;obtain⟨_|⟨f,w'⟩,es⟩:=y
 ·cases a
 ·exact k hv _ _ _ a rfl
structure qJ(L:dW)(fr:I_)(cs:List I_):Prop where
 top:frame (mover L) fr=fr
 low:∀c∈cs,frame (mover L) c=c
 last:((fr::cs).getLast s7).kind=.normal
def qW{f:α->α}{l:List α}(h:l.map f=l):∀x∈l,f x=x:=by
 induction l with
 |nil=>intro x b;cases b
 |cons a l ih=>
  simp only[RY,List.cons.injEq]at h;intro x b;cases b with
  |head=>exact h.1
  |tail _ b=>exact ih h.2 x b
def LH(h:frame (mover L) fr=fr):∀x∈fr.todo,wX L x=G_:=by
 have:=RJ Frame.todo h;exact λx a=>bAx (qW this x a)
def rV(h:frame (mover L) fr=fr):L.fs fr.fn=G_:=by
 have:(if L.fs fr.fn then fr.fn else fr.fn+1)=fr.fn:=RJ Frame.fn h
 by_cases a:L.fs fr.fn=G_
 ·exact a
 ·rw[RD a]at this;exact absurd this (Nat.succ_ne_self _)
def aCq(F:Fit P L π)(h:frame (mover L) fr=fr):∀d∈fr.defers,vN π d.target:=by
 have:=RJ Frame.defers h;intro d b;have e:=qW this d b;have et:target (mover L) d.target=d.target:=RJ Deferred.target e;refine bHd F et λc a=>?_
 rw[a]at et;simp[target,mover,okB]at et
def aUq(h:frame (mover L) fr=fr)(t:Nat):val (mover L) (fr.tmps.getD t undef)=fr.tmps.getD t undef:=by
 have:vals (mover L) fr.tmps=fr.tmps:=RJ Frame.tmps h;rw[<-Gv,this]
def aAv(G:rJ P L)(F:Fit P L π){main:Bool}(N:qJ L fr cs)(a:Γ w->Q w W):
  dM P Γ π C Q (Yy P G_ fr cs B_ v w) (Yy P main (frame π fr) (cs.map (frame π)++C) B_ (val π v) W):=by
 unfold Yy;cases cs with
 |nil=>
  have hk:fr.kind=.normal:=N.last;have hi:=G.inits fr.fn (rV N.top);rw[hk,hi];exact Jl
 |cons c cs=>
  have b:=LH (N.low c s7);have hk:(frame π fr).kind=fr.kind:=rfl;simp only[RY,TP];rw[hk];cases fr.kind<;>simp only
  case normal=>exact jA a (by simp[comp,Dq F c v b])
  case wrapped=>exact jA a (by simp[comp,Dq F c v b])
  case early=>exact jA a (by simp[comp])
  all_goals
   refine jA a ?_;have f:(frame π c).mode=mode π c.mode:=rfl;rw[f];cases hcm:c.mode with
   |panicking ch=>
    cases ch with
    |nil=>simp[comp,mode]
    |cons e ch=>
     obtain⟨v,r,g⟩:=e;cases r
     ·simp[comp,mode,nN]
     ·have d:(ch.map (nN π)).dropWhile (λx=>!x.goexit)=(ch.dropWhile (λx=>!x.goexit)).map (nN π):=by
       rw[List.dropWhile_map];rfl
      have e1:mode π (.panicking ({ v:=v,recovered:=G_,goexit:=g }::ch))=.panicking ({ v:=val π v,recovered:=G_,goexit:=g }::ch.map (nN π)):=rfl;rw[e1];simp only;rw[d];cases ch.dropWhile (λx=>!x.goexit)<;>simp[comp,frame,mode]
   |_=>simp[comp,mode]
end Go.Rn
