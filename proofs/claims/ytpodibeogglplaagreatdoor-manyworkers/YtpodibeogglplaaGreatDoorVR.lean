/- ManyWorkers -/
import Derived.Test.YtpodibeogglplaaGreatDoorVQ
import Derived.Test.YtpodibeogglplaaGreatDoorVJ
import Derived.Conc.WgWords
import Derived.Conc.CompanyDraw
import Derived.Conc.TokenWalk
open Go.RowKit
open Go.Proofs.Tryz
open Array renaming mem_of_getElem?->Ut, getD_eq_getD_getElem?->VW, getElem?_setIfInBounds_ne->Sg, replicate_succ->Vp, replicate_zero->Vq, replicate->UJ
open Bool renaming true->G_, false->E_, not_true->Va, false_or->XU, and_eq_true->SV, not_false->VO, toNat_true->XE, toNat_false->Xk
open Go renaming Program->TB, Value->D_, World->C_, Frame->I_, Event->K_, Addr->J_, Goroutine->H_, execOp->XQ, setCell_eq_setRow->Zr, setRow_heap->ZE
open Go.Conc renaming stepG_seq->Sy, stepG_region_end->RX, goes_oper_k->UE, mem_listed->UZ, stepG_block->Xx, served->Wy, goes_go->ZO, stepG_inBlock->R_, aside_setCell->TQ, stepG_skip->Ug
open Go.Conc.Goes renaming stop->Ta
open Go.Extern renaming find->Ux
open Go.Extern.ReflectliteType renaming toType->Xr, typeOf->Xt, abiMethod->WX, relation->VZ, assignableTo->WE, method->Xq, elem->XL, implements_->WK
open Go.Extern.ReflectliteValue renaming unpack->VD, methodAny->WV, valueError->Vh, method->VB, isNil->Xu, elem->XF, set->XM
open Go.Frame renaming enter->Ur, finish_at->S_
open Go.Region renaming ready->Tx, binds->Yw
open Go.Region.linearise renaming go->VU
open Go.World renaming cell?->SS, cell?_of_block->UN, frozen?->WH
open List renaming range->Vj, all_eq_true->VF, mem_range->YJ, mem_cons->SB, not_mem_nil->Ud, mem_filter->Ua, setIfInBounds_toArray->Ue, set_cons_zero->UG, set_cons_succ->UF, push_toArray->Uv, append_toArray->Vy, nil_append->Tn, cons_append->TP, size_toArray->UQ, length_nil->Ui, length_cons->SC, getElem?_cons_zero->Z_
open Nat renaming lt_or_ge->Us, le_refl->RQ, zero_add->Vz, reduceAdd->Ws
open Option renaming some->A_, bind_some->Yb, none->B_, getD_some->Sq
open Option.some renaming inj->Uj, injEq->Sk
set_option linter.all false
set_option maxHeartbeats 2000000
set_option maxRecDepth 100000
namespace Go.Proofs.YtpodibeogglplaaGreatDoor
section
open Go.Conc.Lib
abbrev bU:WgLink:={ add:=7,done:=9,wait:=11,relMerge:=19,disable:=20,enable:=21,inBubble:=22,associate:=23,fatal:=24,uOr:=25,uAdd:=26,raceRead:=27,uLoad:=28,uStore:=29,disassociate:=30,semrelease:=31,acquire:=32,isAssociated:=33,uCas:=34,raceWrite:=35,semacquire:=36,orU64:=66,addU64:=67,loadU64:=68,storeU64:=69,casU64:=70,tWgP:=68,tUP:=70,tAssoc:=72,tWg:=41,tAU:=38,tU64:=36,tUint:=46,tU32:=39,tPU32:=76,tPAU:=102,tPU64:=104,tNoCopy:=33,tANoCopy:=34,tAlign64:=35 }
def JH:WgLib prog bU:=
 ⟨func7,func9,func11,func19,func20,func21,func22,func23,func24,func25,func26,func27,func28,func29,func30,func31,func32,func33,func34,func35,func36,func66,func67,func68,func69,func70,underlying68,runUnderlying68,sizeOf68,isAgg68,zeroValue68,underlying70,runUnderlying70,sizeOf70,isAgg70,zeroValue70,underlying72,runUnderlying72,sizeOf72,isAgg72,zeroValue72,underlying41,runUnderlying41,sizeOf41,isAgg41,zeroValue41,underlying38,runUnderlying38,sizeOf38,isAgg38,zeroValue38,underlying36,runUnderlying36,sizeOf36,isAgg36,zeroValue36,underlying46,runUnderlying46,sizeOf46,isAgg46,zeroValue46,underlying39,runUnderlying39,sizeOf39,isAgg39,zeroValue39,underlying76,runUnderlying76,sizeOf76,isAgg76,zeroValue76,underlying102,runUnderlying102,sizeOf102,isAgg102,zeroValue102,underlying104,runUnderlying104,sizeOf104,isAgg104,zeroValue104,underlying0,runUnderlying0,sizeOf0,isAgg0,zeroValue0,underlying3,runUnderlying3,sizeOf3,isAgg3,zeroValue3,underlying4,runUnderlying4,sizeOf4,isAgg4,zeroValue4,underlying9,runUnderlying9,sizeOf9,isAgg9,zeroValue9,underlying20,runUnderlying20,sizeOf20,isAgg20,zeroValue20,underlying21,runUnderlying21,sizeOf21,isAgg21,zeroValue21,k7,k7⟩
end
end Go.Proofs.YtpodibeogglplaaGreatDoor
namespace Go.Rn
def Eh(P:TB):Bool:=P.types.toList.all λi=>i.zero.all (Ac 9)
def Ik(P:TB)(L:dW):Bool:=P.types.toList.all λi=>i.methods.toList.all λm=>!L.ms m.name || m.func.all λx=>L.fs x.1
def Nn(L:dW)(f:FuncId)(fn:Func):Bool:=!L.fs f || ((fn.body.all (fH L))&& !(fn.name == "runtime.NumGoroutine"))
def Ee(P:TB)(L:dW)(i n:Nat):Bool:=(Vj n).all λk=>(P.funcs[i+k]?).all (Nn L (i+k))
variable {P:TB} {L:dW} {π:Ren} {i n:Nat}
def aKk(h0:Eh P=G_)(t:Nat)(i:TypeInfo)(h:P.types[t]? = A_ i):Zc i:=by
 unfold Eh at h0;rw[VF]at h0;have h1:=h0 i (by have:=Ut h;simpa using this);intro z a π;rw[a]at h1;exact aF2 9 z h1
def aYr(b:Eh P=G_)(h0:Ik P L=G_){t:TypeId}{i:TypeInfo}{m:Method}{f:FuncId}{q:Bool}(h:P.info? t=A_ i)(c:m∈i.methods)(hn:L.ms m.name=G_)(d:m.func=A_ (f,q)):L.fs f=G_:=by
 rcases(aDi (T:=P.toTables) (aKk b) h).2 with a|a
 ·unfold Ik at h0;rw[VF]at h0;have h1:=h0 i (by have:=Ut a;simpa using this);rw[VF]at h1;have h2:=h1 m (by simpa using c);rw[hn,d]at h2
  simpa using h2
 ·rw[a]at c;simp at c
def bAy(h0:Eh P=G_)(h1:Ik P L=G_)(C:Cond P L π):Ok P π:=
 ⟨C.inj,C.fix,λ_ _ z h c=>(aDi (T:=P.toTables) (aKk h0) h).1 z c π,λf a=>C.f f ((C.fs f).1 a),λn hn=>C.m n ((C.ms n).1 hn),λ_ _ _ f _ h b hn a=>(C.fs f).2 (aYr h0 h1 h b ((C.ms _).1 hn) a)⟩
def LK(h:Ee P L i n=G_){f:Nat}{fn:Func}(h1:i≤f)(h2:f<i+n)(b:P.funcs[f]? = A_ fn)(c:L.fs f=G_):fn.body.all (fH L)=G_∧(fn.name == "runtime.NumGoroutine")=E_:=by
 unfold Ee at h;rw[VF]at h;have h3:=h (f - i) (by rw[YJ];omega);rw[show i+(f - i)=f by omega,b]at h3;have a:Nn L f fn=G_:=h3;unfold Nn at a;rw[c]at a
 simpa using a
end Go.Rn
namespace Go.Proofs.YtpodibeogglplaaGreatDoor
section
open Go.Rn
variable {π:Ren}
def lim:dW where
 fs f:=f == 6 || (Nat.ble 12 f&& Nat.ble f 18) || (Nat.ble 37 f&& Nat.ble f 65) || (Nat.ble 71 f&& Nat.ble f 267) || [281,282,288,291,293,296,298,299].contains f
 ms n:=["Unwrap", "As", "Elem", "Implements", "AssignableTo", "Kind"].contains n
 ng:=7
def bEv:Eh prog=G_:=by kernel_rfl
def bEq:Ik prog lim=G_:=by kernel_rfl
def aHy(C:Cond prog lim π):Ok prog π:=bAy bEv bEq C
def bEn:Ee prog lim 0 100=G_:=by kernel_rfl
def bEo:Ee prog lim 100 100=G_:=by kernel_rfl
def bEp:Ee prog lim 200 120=G_:=by kernel_rfl
end
end Go.Proofs.YtpodibeogglplaaGreatDoor
namespace Go.Rn
variable {P:TB} {L:dW} {xs:List Nat} {n:Nat} {π:Ren}
def qg{f:Nat}{fn:Func}{e E:Array D_->Sem D_}(a:(P.funcs[f]?).bind Ux=A_ E)(h:P.funcs[f]? = A_ fn)(b:Ux fn=A_ e):e=E:=by
 rw[h,Yb,b]at a;exact Uj a
def aTb{f:Nat}{fn:Func}{e:Array D_->Sem D_}(a:(P.funcs[f]?).bind Ux=B_)(h:P.funcs[f]? = A_ fn)(b:Ux fn=A_ e):False:=by
 rw[h,Yb,b]at a;exact absurd a s7
def aBu{f:Nat}{fn:Func}{e:Array D_->Sem D_}{g:Func->Array D_->Sem D_}(a:(P.funcs[f]?).bind Ux=(P.funcs[f]?).map g)(h:P.funcs[f]? = A_ fn)(b:Ux fn=A_ e):e=g fn:=by
 rw[h,Yb,b,Option.map_some]at a;exact Uj a
def Np(P:TB)(L:dW)(xs:List Nat)(n:Nat):Bool:=(Vj n).all λk=>!L.fs k || ((P.funcs[k]?).any (λfn=>!fn.body.isNone || xs.contains k)&& (P.inits.idxOf? k).isNone)
def GN{f:Nat}(h:Np P L xs n=G_)(hn:f<n)(c:L.fs f=G_):∃fn,P.funcs[f]? = A_ fn/\(fn.body.isNone=G_->f∈xs)/\P.inits.idxOf? f=B_:=by
 unfold Np at h;rw[VF]at h;have h3:=h f (by rw[YJ];exact hn);rw[c]at h3;simp only[Va,XU,SV]at h3;cases hf:P.funcs[f]? with
 |none=>rw[hf]at h3;simp at h3
 |some fn=>
  rw[hf]at h3;refine⟨fn,rfl,λb=>?_,by simpa using h3.2⟩;have a:=h3.1;simp only[Option.any_some,b,Va,XU]at a
  simpa using a
def Nq(P:TB)(xs:List Nat):Bool:=xs.all λk=>(P.funcs[k]?).all λfn=>(Extern.findNext fn).isNone
def bAb{f:Nat}{fn:Func}(h:Nq P xs=G_)(b:f∈xs)(a:P.funcs[f]? = A_ fn):Extern.findNext fn=B_:=by
 unfold Nq at h;rw[VF]at h;have h3:=h f b;rw[a]at h3
 simpa using h3
def bH2(H:Ok P π){args:Array D_}:VR P π (VD (args.getD 0 (.tuple #[]))) (VD ((vals π args).getD 0 (.tuple #[]))):=by
 have e:(vals π args).getD 0 (.tuple #[])=val π (args.getD 0 (.tuple #[])):=by
  simp only[VW,iw];cases args[0]? with
  |none=>simp only[Option.map_none,Option.getD_none,gN,qF]
  |some v=>rfl
 rw[e];exact aJw H
end Go.Rn
namespace Go.Proofs.YtpodibeogglplaaGreatDoor
section
open Go.Rn
variable {π:Ren} {w':C_} {v:D_} {L:dW}
def Jc:List Nat:=[91,166,180,181,182,206,215,216,217,234,243,281,282,293,296,298,299]
def e91:(prog.funcs[91]?).bind Ux=A_ Extern.AbiNoEscape.same:=by kernel_rfl
def e166:(prog.funcs[166]?).bind Ux=A_ Extern.BytealgIndex.index:=by kernel_rfl
def aRm:(prog.funcs[180]?).bind Ux=A_ (λargs=>VD (args.getD 0 (.tuple #[]))):=by kernel_rfl
def e181:(prog.funcs[181]?).bind Ux=A_ (WV (Vh "reflectlite.Value.Type" 0) λt _ _ _=>Xr t):=by kernel_rfl
def aRn:(prog.funcs[182]?).bind Ux=A_ (VB (Vh "reflectlite.Value.IsNil" 0) Xu):=by kernel_rfl
def e206:(prog.funcs[206]?).bind Ux=A_ Extern.BytealgIndexByte.indexByte:=by kernel_rfl
def e215:(prog.funcs[215]?).bind Ux=A_ Xt:=by kernel_rfl
def e216:(prog.funcs[216]?).bind Ux=A_ (VB (Vh "reflectlite.Value.Elem" 0) XF):=by kernel_rfl
def e217:(prog.funcs[217]?).bind Ux=A_ XM:=by kernel_rfl
def e234:(prog.funcs[234]?).bind Ux=(prog.funcs[234]?).map λfn=>Extern.BytealgMakeNoZero.makeNoZero fn.params fn.resultTypes:=by kernel_rfl
def e243:(prog.funcs[243]?).bind Ux=(prog.funcs[243]?).map λfn=>Extern.SlicesOverlaps.overlaps fn.params fn.resultTypes:=by kernel_rfl
def aRo:(prog.funcs[281]?).bind Ux=B_:=by kernel_rfl
def aRp:(prog.funcs[282]?).bind Ux=A_ (WX λt=>Extern.Rtype.kind t >>= λk=>pure (.int .u8 k)):=by kernel_rfl
def aRq:(prog.funcs[293]?).bind Ux=A_ (VB (pure (.int .u8 0)) λ_ _ _ k=>pure (.int .u8 (Int.ofNat k))):=by kernel_rfl
def e296:(prog.funcs[296]?).bind Ux=A_ (VZ "AssignableTo" WE):=by kernel_rfl
def e298:(prog.funcs[298]?).bind Ux=A_ (Xq XL):=by kernel_rfl
def e299:(prog.funcs[299]?).bind Ux=A_ (VZ "Implements" WK):=by kernel_rfl
def bEs:Nq prog Jc=G_:=by kernel_rfl
def Jd:Np prog lim Jc 300=G_:=by kernel_rfl
def DV{f:Nat}(h:lim.fs f=G_):f<300:=by
 unfold lim at h;simp only[Bool.or_eq_true,SV,beq_iff_eq,Nat.ble_eq,List.contains_iff_mem,SB,Ud,or_false]at h;have h:(((f=6\/12<=f/\f<=18)\/37<=f/\f<=65)\/71<=f/\f<=267)\/f=281\/f=282\/f=288\/f=291\/f=293\/f=296\/f=298\/f=299:=h;omega
def aHv{f:Nat}{fn:Func}(b:prog.funcs[f]? = A_ fn)(a:lim.fs f=G_):fn.body.all (fH lim)=G_∧(fn.name == "runtime.NumGoroutine")=E_:=by
 have:=DV a;rcases Us f 100 with h|h
 ·exact LK bEn (Nat.zero_le _) o7 b a
 ·rcases Us f 200 with c|c
  ·exact LK bEo h o7 b a
  ·exact LK bEp c o7 b a
def bEt(H:Ok prog π){f:Nat}{fn:Func}{e:Array D_->Sem D_}(a:f∈Jc)(h:prog.funcs[f]? = A_ fn)(b:Ux fn=A_ e)(args:Array D_):VR prog π (e args) (e (vals π args)):=by
 unfold Jc at a;simp only[SB,Ud,or_false]at a;rcases a with a|a|a|a|a|a|a|a|a|a|a|a|a|a|a|a|a<;>rw[a]at h
 ·rw[qg e91 h b];exact bEi
 ·rw[qg e166 h b];exact aVw H
 ·rw[qg aRm h b];exact bH2 H
 ·rw[qg e181 h b];refine bIk H Aw ?_;exact λt _ _ _=>Pf H
 ·rw[qg aRn h b];exact PD H Aw λ_ _ _ _=>aWj
 ·rw[qg e206 h b];exact aVt
 ·rw[qg e215 h b];exact bHv H
 ·rw[qg e216 h b];exact PD H Aw λ_ _ _ _=>bIc H
 ·rw[qg e217 h b];exact bIl H
 ·rw[aBu e234 h b];exact aYc H
 ·rw[aBu e243 h b];exact bBe H
 ·exact(aTb aRo h b).elim
 ·rw[qg aRp h b];exact aK2 H λt=>jo (IQ t) λk=>av (gB _ _).symm
 ·rw[qg aRq h b];refine PD H ?_ ?_;exact av (gB _ _).symm;exact λ_ _ _ _=>av (gB _ _).symm
 ·rw[qg e296 h b];exact aHe H λ_ _=>aL1
 ·rw[qg e298 h b];exact bDy H λ_=>bDr H
 ·rw[qg e299 h b];exact aHe H λ_ _=>aVq
def bEr:lim.ng<=prog.globals.size:=by
 have h:Nat.ble lim.ng prog.globals.size=G_:=by kernel_rfl
 exact Nat.le_of_ble_eq_true h
def bEm(C:Cond prog lim π):Ext prog π:=
 ⟨λf fn a h=>(aHv h ((C.fs f).1 a)).2,
  λf fn a h d=>by
  have b:=(C.fs f).1 a;obtain⟨c,h1,h2,_⟩:=GN Jd (DV b) b;rw[h]at h1;cases h1;exact bAb bEs (h2 d) h,
  λf fn e a h d g args=>by
  have b:=(C.fs f).1 a;obtain⟨c,h1,h2,_⟩:=GN Jd (DV b) b;rw[h]at h1;cases h1;exact bEt (aHy C) (h2 d) h g args⟩
def seat:Seat prog lim:=
 ⟨λ_ C=>⟨aHy C,bEm C,C.fs,C.ms,bEr,C.bad,C.code⟩,
  ⟨λf fn c a h b=>by
   have:=(aHv h a).1;rw[b]at this
   simpa using this,
  λf a=>by obtain⟨_,_,_,h⟩:=GN Jd (DV a) a;exact h⟩,
  λf a=>by obtain⟨fn,h,_⟩:=GN Jd (DV a) a;exact⟨fn,h⟩⟩
def vO(π:Rn.Ren)(w w':C_):Prop:=∀(b:Nat) (c:Array D_) (e:TypeId) (f:Nat×Nat),b<7->w.heap[b]? = A_ (.cells c e f)->∃f',w'.heap[b]? = A_ (.cells (vals π c) e f')
def vO.cell{π:Rn.Ren}{w:C_}(h:vO π w w'){b:Nat}(d:b<7)(hv:w.cell? ⟨b,0,B_⟩=A_ v):w'.cell? ⟨b,0,B_⟩=A_ (val π v):=by
 unfold SS at hv⊢;dsimp only at hv⊢;split at hv
 ·rename_i c e f he;obtain⟨f',a⟩:=h b c e f d he;rw[a];simp only[Option.isSome_none,Bool.false_eq_true,if_false]at hv⊢;rw[iw,hv];rfl
 ·cases hv
def vO.aBo{π:Rn.Ren}{w:C_}(h:vO π w w'){b:Nat}(a:b<7)(hv:zh w b):zh w' b:=by
 obtain⟨v,h1,h2⟩:=hv;refine⟨_,h.cell a h1,?_⟩;rcases h2 with h2|⟨d,c,h2⟩
 ·rw[h2];left;simp
 ·rw[h2];right;exact⟨d,val π c,by simp⟩
def vO.vars{π:Rn.Ren}{w:C_}(h:vO π w w')(d:π.b 7=7)(hv:bE w):bE w':=by
 obtain⟨h1,⟨t,f,h2⟩,h3,a⟩:=hv;refine⟨?_,?_,h.aBo d7 h3,h.aBo d7 a⟩
 ·unfold jD at h1⊢;rw[h.cell d7 h1,fM,fq,Av,dI];simp[addr,d]
 ·obtain⟨f',c⟩:=h _ _ _ _ d7 h2;refine⟨t,f',?_⟩;rw[c,nD,List.map_map]
  congr 2
  congr 1
  apply List.map_congr_left;intro z _;simp
def bH7{a:Nat}{w:C_}(hv:bE w):bE (tL a w):=by
 refine vO.vars (π:=fO L E_) (λb c e f _ h=>?_) rfl hv;rw[DF,h];have d:vals (fO L E_) c=c:=uI c;rw[d]
 by_cases g:b<a
 ·exact⟨_,by simp[g,yx];rfl⟩
 ·exact⟨f,by simp[g]⟩
def bH9{a j G:Nat}{w:C_}(k:7<a)(l:a+j<=w.heap.size)(i:w.heap.size<=G+j)(hv:bE w):bE (eU L a j G w):=by
 have g:∀b,b<a->(toN L a j G).b b=b:=λb d=>by show fJ a j G b=b;unfold fJ;simp[d]
 refine vO.vars (π:=toN L a j G) (λb c e f d h=>?_) (g _ k) hv;have h1:=DZ (L:=L) l i (x:=b) o7 (by rw[yX];left;omega);rw[g b o7,h]at h1;exact⟨f,h1⟩
end
section
open Go.Rn Go.Mw
variable {main:Bool} {Cs:List I_} {S:Nat->Prop} {xs:List Nat}
def Ou(t:ByteArray)(b:t.size<=4000){w:C_}(hv:bE w)(a:7<=w.heap.size):
  Calls prog 6 #[.string t] w λe w'=>∃v,e=.returned v/\v=.string (aQ (vC t.data.toList))/\Go.RowKit.Below w.heap.size w w':=
 (aQy t b w hv a).mono λ_ _ h=>⟨_,h.1,rfl,h.2⟩
def bE.tape{w:C_}(hv:bE w)(τ:Nat->Question->Nat):bE { w with tape:=τ }:=⟨hv.et,hv.tab,hv.syn,hv.ran⟩
def bEu{R:(Nat->Prop)->C_->C_->Prop}{D:(Nat->Prop)->C_->C_->Array K_->Prop}{Sh:Nat->Prop}{a j:Nat}(H:prog.globals.size+1<=a)(q:7<a){c:I_}(t:ByteArray)(A:t.size<=4000)(B:∀f∈c::Cs,∀l k,f.todo≠.inRangeFunc l::k)(E:∀S W W₁,R S W W₁->(∀b,Sh b\/S b->W₁.heap[b]? = W.heap[b]?)/\W.heap.size<=W₁.heap.size/\W₁.os=W.os)(C:∀S W W' es,(∃W₀,R S W₀ W)->Mw.Does Sh S W W' es->D S W W' es){w W:C_}{β:Nat->Nat}(J:w.heap.size=a+j)(p:∀b:Nat,b<a->∃c e f,w.heap[b]? = A_ (.cells c e f)/\f.1=f.2)(d:uM a j w)(F:∀(b:Nat) (o:Obj),w.heap[b]? = A_ o->obj (eF lim w.heap.size) o=o)(n:∀x y,x<a+j->y<a+j->β x=β y->x=y)(s:∀b,b<a+j->β b<W.heap.size)(i:∀b:Nat,b<a->W.heap[β b]? = (w.heap[b]?).map (obj (Rn.own lim β)))(m:∀g,g<prog.globals.size+1->β g=g)(u:W.os=w.os)(z:∀b,b<a+j->Sh (β b))(hv:bE w):
  ∃r,Tree prog main R D (AA c Cs (.string (aQ (vC t.data.toList)))) r S { frame:=Ur prog 6 #[.string t] .normal,callers:=c::Cs,status:=.running,dying:=B_ } W:=by
 refine aNq (Post:=λv w'=>v=.string (aQ (vC t.data.toList))/\vJ a w.heap w') seat H r7 func6 r7 (λπ=>by rw[Av,jB]) B E C J p d F n s i m u z ?_ ?_ ?_ ?_ ?_ ?_
 ·exact λ_ _ _ h=>h
 ·exact λ_ _ h=>h.2
 ·exact λ_ _ h=>⟨h.1,λπ=>by rw[h.1,jB]⟩
 ·intro τ;refine(Ou t A (hv.tape τ) (by show _<=w.heap.size;omega)).mono λe w' ⟨v,h1,h2,h3⟩=>⟨v,h1,h2,λb M=>h3.block b (by show b<w.heap.size;omega)⟩
 ·intro τ;refine(Ou t A ((bH7 (L:=lim) hv).tape τ) (by show _<=(tL a w).heap.size;rw[DI];omega)).mono λe w' ⟨v,h1,_⟩=>⟨v,h1,trivial⟩
 ·intro G K τ;have hn:=Ea (L:=lim) (a:=a) (j:=j) (G:=G) (w:={ w with tape:=τ }) (by show _<=w.heap.size;omega);have I:(eU lim a j G { w with tape:=τ }).heap.size+j=w.heap.size:=hn;refine(Ou t A (bH9 q (by show _<=w.heap.size;omega) (by show w.heap.size<=_;omega) (hv.tape τ)) o7).mono λe w' ⟨v,h1,_⟩=>⟨v,h1,trivial⟩
def aHw:prog.globals.size=7:=by kernel_rfl
def bH8{a:Nat}{W:C_}(d:7<a)(g:Rn.Ground lim a xs W)(hv:bE W):bE (Rn.lone lim a xs W):=by
 refine vO.vars (π:=Rn.own lim (nP a xs)) (λb c e f i h=>?_) (LQ d) hv;refine⟨f,?_⟩;rw[Ht g.size o7,h];rfl
def aHx{R:(Nat->Prop)->C_->C_->Prop}{D:(Nat->Prop)->C_->C_->Array K_->Prop}{Sh:Nat->Prop}{c:I_}(t:ByteArray)(o:t.size<=4000)(i:∀f∈c::Cs,∀l k,f.todo≠.inRangeFunc l::k)(n:∀S W W₁,R S W W₁->(∀b,Sh b\/S b->W₁.heap[b]? = W.heap[b]?)/\W.heap.size<=W₁.heap.size/\W₁.os=W.os)(m:∀S W W' es,(∃W₀,R S W₀ W)->Mw.Does Sh S W W' es->D S W W' es){W:C_}(g:Rn.Ground lim (7+1) xs W)(hv:bE W)(d:∀b,b<7+1->Sh b)(e:∀b∈xs,Sh b):
  ∃r,Tree prog main R D (AA c Cs (.string (aQ (vC t.data.toList)))) r S { frame:=Ur prog 6 #[.string t] .normal,callers:=c::Cs,status:=.running,dying:=B_ } W:=
 bEu (j:=xs.length) (β:=mU (7+1) xs) (w:=Rn.lone lim (7+1) xs W) (by rw[aHw];exact RQ _) d7 t o i n m (MG g.size) g.cells (aEl g.size) g.tight g.inj g.lt g.blk (λb a=>vZ (by rw[aHw]at a;exact a)) rfl
  (λb a=>by
   by_cases h:b<7+1
   ·rw[vZ h];exact d b h
   ·exact e _ (FC h a)) (bH8 d7 g hv)
end
section
open Go.Mw
variable {w w':C_} {xs:List Nat}
instance:Go.ConcR.Payload:=⟨9⟩
structure Fx(N m:Nat)(xs:List Nat)(src:Option J_)(tx:Nat->ByteArray)(old:Nat->Prop)(H:Array Obj)(o:Io)(w:C_):Prop where
 bj:w.heap[N+3]? = A_ (.cells #[.chan (A_ (N+2))] 31)
 ba:w.heap[N+1]? = A_ (.cells #[.slice (A_ ⟨N,0,B_⟩) m m] 22)
 gr:Rn.Ground lim (7+1) xs w
 vs:bE w
 tx:∀j,j<m->∃a,src=A_ a/\w.cell? (a.add j)=A_ (.string (tx j))
 hp:∀b:Nat,b<N->¬old b->w.heap[b]? = H[b]?
 os:(io w)=o
def bE.same(h:bE w)(a:∀b:Nat,b<7->w'.heap[b]? = w.heap[b]?):bE w':=by
 obtain⟨h1,⟨t,f,h2⟩,⟨c,h3,k3⟩,⟨d,e,g⟩⟩:=h;refine⟨?_,⟨t,f,(a _ d7).trans h2⟩,⟨c,(UN (a 3 d7)).trans h3,k3⟩,⟨d,(UN (a 4 d7)).trans e,g⟩⟩;unfold jD at h1⊢;exact(UN (a 2 d7)).trans h1
def DC{L:Rn.dW}{a:Nat}(h:Rn.Ground L a xs w)(j:∀b:Nat,b<a->w'.heap[b]? = w.heap[b]?)(g:w.heap.size<=w'.heap.size):Rn.Ground L a xs w':=
 ⟨λb d=>let ⟨c,e,f,h1,h2⟩:=h.low b d;⟨c,e,f,(j b d).trans h1,h2⟩,Nat.le_trans h.size g,λx i=>⟨(h.up x i).1,Nat.lt_of_lt_of_le (h.up x i).2 g⟩,h.nd⟩
structure Cl where
 N:Nat
 m:Nat
 xs:List Nat
 src:Option J_
 tx:Nat->ByteArray
 oC:Nat->Prop
 oO:Nat->Prop
 H:Array Obj
 o:Io
 big:7+1<=N
 old:∀b,oC b\/oO b->7+1<=b/\b<N
 sx:∀x∈xs,x<N/\¬(oC x\/oO x)
 ss:0<m->∀a,src=A_ a->a.block<N/\¬(oC a.block\/oO a.block)
def zo(a:J_)(n:Nat):(a.add n).block=a.block:=by unfold Addr.add;split<;>rfl
def Cl.pl(c:Cl):Mw.Place where
 ty:=41
 ety:=9
 Wg:=c.N+4
 Ch:=c.N+2
 An:=c.N
 m:=c.m
 Low:=c.N+5
 Ei:=c.oC
 Ej:=c.oO
 wg:=by omega
 ch:=by omega
 an:=by omega
 gc:=by omega
 ga:=by omega
 ca:=by omega
 ow:=λb h=>by have:=(c.old b h).2;omega
 fx:=Fx c.N c.m c.xs c.src c.tx (λb=>c.oC b\/c.oO b) c.H c.o
 yu:=λw w₁ h hs ho k=>by
  have key:∀b:Nat,b<c.N->¬(c.oC b\/c.oO b)->w₁.heap[b]? = w.heap[b]? :=λb h1 h2=>h b ⟨by omega,by omega,by omega,by omega,h2⟩
  have low:∀b:Nat,b<7+1->w₁.heap[b]? = w.heap[b]? :=λb hb=>key b (by have:=c.big;omega) λho=>by have:=(c.old b ho).1;omega
  refine⟨(h (c.N+3) ⟨by omega,by omega,by omega,by omega,λho=>by have:=(c.old _ ho).2;omega⟩).trans k.bj,(h (c.N+1) ⟨by omega,by omega,by omega,by omega,λho=>by have:=(c.old _ ho).2;omega⟩).trans k.ba,DC k.gr low hs,k.vs.same λb hb=>low b o7,λj hj=>?_,λb hb hn=>(key b hb hn).trans (k.hp b hb hn),ho.trans k.os⟩;obtain⟨a,e,h1⟩:=k.tx j hj;refine⟨a,e,(UN ?_).trans h1⟩;rw[zo];exact key _ (c.ss o7 a e).1 (c.ss o7 a e).2
variable {c:Cl} {S:Nat->Prop} {wr:Bool}
def Oe{b:Nat}(h:b<c.N)(k:¬(c.oC b\/c.oO b)):kW c.pl b:=⟨show b<c.N+5 by omega,show b≠c.N+4 by omega,show b≠c.N+2 by omega,show b≠c.N by omega,k⟩
def Ew:kW c.pl (c.N+3):=⟨show c.N+3<c.N+5 by omega,show c.N+3≠c.N+4 by omega,show c.N+3≠c.N+2 by omega,show c.N+3≠c.N by omega,λho=>by have:=(c.old _ ho).2;omega⟩
def bDg:kW c.pl (c.N+1):=⟨show c.N+1<c.N+5 by omega,show c.N+1≠c.N+4 by omega,show c.N+1≠c.N+2 by omega,show c.N+1≠c.N by omega,λho=>by have:=(c.old _ ho).2;omega⟩
def bDh{b:Nat}(h:b<7+1):kW c.pl b:=Oe (by have:=c.big;omega) λho=>by have:=(c.old _ ho).1;omega
def wP(h:GI c.pl w):Fx c.N c.m c.xs c.src c.tx (λb=>c.oC b\/c.oO b) c.H c.o w:=h.fx
def Gw(h:GI c.pl w):w.cell? ⟨c.N+3,0,B_⟩=A_ (.chan (A_ (c.N+2))):=by simp[SS,(wP h).bj]
def aUw(h:GI c.pl w):w.cell? ⟨c.N+1,0,B_⟩=A_ (.slice (A_ ⟨c.N,0,B_⟩) c.m c.m):=by simp[SS,(wP h).ba]
def wY{J:Nat->Prop}(w:C_):Mw.Own c.pl J S w w:=⟨λ_ _ _ _=>rfl,id,λ_ _=>rfl,RQ _,rfl⟩
def yg{J:Nat->Prop}(w:C_):DW c.pl J S w w #[]:=⟨wY w,λe a=>by simp at a⟩
def aBs{J:Nat->Prop}{a:J_}{s:Bool}(h:kW c.pl a.block):EvW c.pl J S ⟨.cell a,E_,s⟩:=⟨λb d=>by cases d;exact .inr (.inr ⟨h,rfl⟩),λr f=>(by cases f),λm e=>(by cases e)⟩
def Gg{J:Nat->Prop}{a:J_}{s:Bool}(h:S a.block):EvW c.pl J S ⟨.cell a,wr,s⟩:=⟨λb d=>by cases d;exact .inl h,λr f=>(by cases f),λm e=>(by cases e)⟩
def aS6{J:Nat->Prop}{a:J_}{s:Bool}(h:a.block=c.N)(k:J a.off):EvW c.pl J S ⟨.cell a,wr,s⟩:=⟨λb d=>by cases d;exact .inr (.inl ⟨h,k⟩),λr f=>(by cases f),λm e=>(by cases e)⟩
def yM{J:Nat->Prop}(S:Nat->Prop)(a b:C_)(h:Rl c.pl J S a b):Rl c.pl J S b b:=h.back
end
section
open Go.Mw Go.Conc.Lib Go.ConcR.Gen Go.ConcN.Gen
open Go.Conc hiding served
open Go.ConcR (DC0 WgAt)
variable {c:Cl} {S:Nat->Prop} {w w₁:C_} {val:Nat->D_} {P:TB} {a b d e:Bool} {i:Nat} {J:Nat->Prop} {j bk:Nat} {v0 p q s t u v g k z l x y A B C E:D_} {b7:Bool} {n W:Nat} {src:Option J_} {cap:Nat} {cs:List I_} {X:H_->C_->Prop} {v1 Z v3 v4 v5 v9 r D F I K M O Q R T V v2 Y a0:D_} {m:Nat} {o:Io} {H:Array Obj} {Sh U:Loc->Prop} {NR:J_->Prop} {b₀:I_} {a₀:Act} {ops₀:Array Oper} {i₀:Nat} {rest₀:List Nat} {k₀:List Item}
noncomputable def bot:I_:={ (default:I_)with fn:=prog.funcs.size,defers:=[],mode:=.panicking [goexitEntry] }
noncomputable def FI:Code:=f8.body.getD .skip
noncomputable def bA5:Array Oper:=match FI with| .seq _ (.region _ o _)=>o|_=>#[]
noncomputable def pY:Code:=f10.body.getD .skip
noncomputable def fD:Code:=match pY with| .seq _ (.block _ (.loop c))=>c|_=>.skip
noncomputable def JG:Array Oper:=match fD with| .seq (.region _ o _) _=>o|_=>#[]
noncomputable def rD:Code:=match fD with| .seq _ c=>c|_=>.skip
def Dc(c:Cl):Deferred:={ target:=.fn (.func 8) #[.pointer (A_ ⟨c.N+4,0,B_⟩),.pointer (A_ ⟨c.N+3,0,B_⟩),.pointer (A_ ⟨c.N+1,0,B_⟩)],args:=#[] }
noncomputable def iE (c:Cl):I_:=(baseD 8).at ⟨#[.pointer (A_ ⟨c.N+4,0,B_⟩),.pointer (A_ ⟨c.N+3,0,B_⟩),.pointer (A_ ⟨c.N+1,0,B_⟩),.chan (A_ (c.N+2)),.slice (A_ ⟨c.N,0,B_⟩) c.m c.m,undef],[dcall 9 #[.pointer (A_ ⟨c.N+4,0,B_⟩)]]⟩ [.inRegion bA5 [2]]
noncomputable def wM (T:Array D_):I_:=(base 10).at ⟨T,[]⟩ [.inRegion JG [0,1],.code rD,.inLoop fD,.inBlock 0]
def AtR(c:Cl)(g:H_):Prop:=g.status=.running/\g.dying=B_/\g.callers=[iE c,bot]/\∃T:Array D_,g.frame=wM T/\T.size=16/\T[1]? = A_ (.slice (A_ ⟨c.N,0,B_⟩) c.m c.m)/\T[5]? = A_ (.chan (A_ (c.N+2)))
def aNc(c:Cl)(w:C_):stepG prog E_ (born prog (Dc c)) w=
  .go (G ((baseD 8).at ⟨#[.pointer (A_ ⟨c.N+4,0,B_⟩),.pointer (A_ ⟨c.N+3,0,B_⟩),.pointer (A_ ⟨c.N+1,0,B_⟩),undef,undef,undef],[]⟩ [.code FI]) [bot]) w #[]:=by
 simp[born,Dc,stepG,unwind,callDeferred,invoke,callFunc,func8,f8,seen,GStep.after,G,Ur,Frame.at,baseD,bot,FI]
def aZo:(f10.name == "runtime.NumGoroutine")=E_:=by kernel_rfl
def qj{J:Nat->Prop}(_:GI c.pl w)(r:Rl c.pl J S w w₁):GI c.pl w₁:=r.gi
def kid(w:C_)(_:GI c.pl w):∃r,Tree prog E_ (Rl c.pl (λ_=>False)) (DW c.pl (λ_=>False)) (iy c.pl (AtR c) val (λ_=>False)) r (λ_=>False) (born prog (Dc c)) w:=by
 refine gL yM (λ_ w _=>yg w) (n:=10) ?_;refine Goes.step rfl λf k=>?_
 rw[aNc];refine⟨⟨rfl,rfl⟩,?_⟩;have a:=k.gi;clear k;simp only[FI,f8,Sq]
 u_c Sy qj a
 u_reg qj a
 u_defer qj a
 u_c RX qj a
 u_reg qj a
 refine Ta λf h₁=>?_
 replace a:=h₁.gi;clear h₁;refine ig rfl λf h₁=>UE rfl rfl d7 λK b=>?_
 replace a:=h₁.gi;have g:=Gw a;go_simp;refine b _ _ ⟨⟨wY _,λe i=>?_⟩,?_⟩
 ·have d:=UZ i;simp[go_sem, *]at d;subst d;exact aBs Ew
 clear b K h₁ g;rw[lH _ rfl];refine ig rfl λf h₁=>UE rfl rfl d7 λK b=>?_
 replace a:=h₁.gi;have g:=aUw a;go_simp;refine b _ _ ⟨⟨wY _,λe i=>?_⟩,?_⟩
 ·have d:=UZ i;simp[go_sem, *]at d;subst d;exact aBs bDg
 clear b K h₁ g;rw[lH _ rfl];refine gL yM (λ_ w _=>yg w) (n:=10) ?_
 u_call func10 aZo f10 qj a
 u_c Sy qj a
 u_reg qj a
 u_op qj a
 u_c RX qj a
 u_c Xx qj a
 u_c stepG_loop qj a
 u_c Sy qj a
 u_reg qj a
 refine Ta λf h₁=>⟨.zero,λo m=>⟨⟨rfl,rfl,rfl,_,rfl,rfl,rfl,rfl⟩,λj l=>l.elim⟩⟩
def Hu{fn:FuncId}{a:Act}{o:Oper}(b:(XQ a.eval o).events P w #[]=#[]):listed P fn a o w=#[]:=by
 unfold listed;rw[b,seen_none]
def zJ:D_:=.agg #[.int .i64 0,.string ⟨#[]⟩]
def rW{J:Nat->Prop}(h:GI c.pl w/\Done c.pl val J w)(r:Rl c.pl J S w w₁):GI c.pl w₁/\Done c.pl val J w₁:=⟨r.gi,h.2.rely r⟩
def aL6(g:H_)(h:AtR c g):g.status=.running:=h.1
def Kk{g:H_}(h:AtR c g):∃T:Array D_,core g=G (wM T) [iE c,bot]/\T.size=16/\T[1]? = A_ (.slice (A_ ⟨c.N,0,B_⟩) c.m c.m)/\T[5]? = A_ (.chan (A_ (c.N+2))):=by
 obtain⟨h1,h2,h3,T,a,b⟩:=h;refine⟨T,?_,b⟩;cases g;simp only at h1 h2 h3 a;subst h1 h2 h3 a;rfl
def aL3(g:H_)(h:AtR c g):AtR c { sW c.pl zJ g with status:=.running }:=⟨rfl,h.2.1,h.2.2.1,h.2.2.2⟩
def aL5(g:H_)(w:C_)(h:AtR c g)(_:GI c.pl w):stepG prog E_ g w=.comm (core g) #[rcase c.pl.Ch zJ] G_ (.recv G_) w #[]:=by
 obtain⟨T,h1,h2,h3,a⟩:=Kk h;have e:stepG prog E_ g w=stepG prog E_ (core g) w:=stepG_same rfl rfl rfl w;rw[e,h1];have b:T.getD 5 undef=.chan (A_ (c.N+2)):=by rw[VW,a];rfl
 unfold wM;simp only[JG,fD,pY,f10,Sq]
 rw[stepG_comm (cases:=#[rcase (c.N+2) zJ]) (blocking:=G_) (shape:=.recv G_) (w':=w) rfl rfl d7 (by
  unfold XQ;simp only[Act.eval];go_simp;rfl),Hu (by
  unfold XQ;simp only[Act.eval];simp[go_sem])]
 rfl
def goexit(T:Array D_):QuitsD prog 2 0 (G { (baseD 8).at ⟨T,[]⟩ []with mode:=.returning } [bot]):=by
 refine QuitsD.ctl (g':=G bot []) rfl (λw=>?_) ?_
 ·simp[G,stepG,unwind,doReturn,results,Frame.at,baseD,bot,func8,f8,seen,GStep.after,goexitEntry]
 refine QuitsD.ctl (g':={ G bot []with status:=.finished }) rfl (λw=>?_) ⟨rfl,rfl⟩;simp[G,stepG,unwind,bot,goexitEntry,Frame.catches];rfl
def Qz(T:Array D_)(h:T.size=16):∃v0 v1 v2 v3 v4 v5 v6 v7 v8 v9 v10 v11 v12 v13 v14 v15:D_,T=#[v0,v1,v2,v3,v4,v5,v6,v7,v8,v9,v10,v11,v12,v13,v14,v15]:=by
 obtain⟨l⟩:=T
 match l,h with
 |[v0,v1,v2,v3,v4,v5,v6,v7,v8,v9,v10,v11,v12,v13,v14,v15],_=>exact⟨v0,v1,v2,v3,v4,v5,v6,v7,v8,v9,v10,v11,v12,v13,v14,v15,rfl⟩
def aL7(g:H_)(J S:Nat->Prop)(w:C_)(h:AtR c g)(s:GI c.pl w)(o:Done c.pl val J w):
  ∃r,Tree prog E_ (Rl c.pl J) (DW c.pl J) (CK prog c.pl val J) r S (Wy (core g) (.tuple #[zJ,.bool E_])) w:=by
 obtain⟨T,h1,h2,h3,C⟩:=Kk h;obtain⟨v0,v1,t,u,v,x,y,z,A,B,f,i,j,k,l,m,rfl⟩:=Qz T h2;rw[h1];have e:Wy (G (wM #[v0,v1,t,u,v,x,y,z,A,B,f,i,j,k,l,m]) [iE c,bot]) (.tuple #[zJ,.bool E_])=G ((wM #[v0,v1,t,u,v,x,y,z,A,B,f,i,j,k,l,m]).finish (.tuple #[zJ,.bool E_])) [iE c,bot]:=rfl;rw[e];unfold wM;rw[S_];have d:GI c.pl w/\Done c.pl val J w:=⟨s,o⟩;clear s o;refine gL yM (λ_ w _=>yg w) (n:=20) ?_;simp only[JG,rD,fD,pY,f10,Sq]
 walk_nrm
 u_op rW d
 u_c RX rW d
 u_c Sy rW d
 u_cond E_ rW d
 u_exit rW d
 u_c stepG_end rW d
 unfold iE
 u_leave0 func10 rW d
 u_c RX rW d
 u_c stepG_end rW d
 u_in rW d
 rw[stepG_unwind_enter rfl func9 (nm_done bU) rfl];simp only[ZO];refine⟨by u_nil,?_⟩
 walk_nrmf f9
 have q:=@aPy _ prog bU (c.N+4) (c.N+3) 1 0 1 (.chan (A_ (c.N+2))) JH;simp only[body_done,doneFn,Sq]at q;refine Ta λD h₁=>?_
 replace d:=rW d h₁;clear h₁;refine aJj (St:=λg w=>ConcN.AtR0 prog bU.tWg (c.N+4) (c.N+3) 1 0 1 (.chan (A_ (c.N+2))) g w/\GI c.pl w/\Done c.pl val J w) yM (λw w' es _ o=>?_) (λg w _ h=>⟨⟨_,_,Ew,h.1⟩,h.2.2⟩) (LY (I:=λw=>GI c.pl w/\Done c.pl val J w) (λa b=>rW) d (aC2 (λa b h=>aHs (p:=c.pl) Ew h) (q rfl (goexit _) _ ⟨d.1.wg,Gw d.1⟩)));obtain⟨rfl,rfl⟩:=o;exact⟨yg _,rfl⟩
noncomputable def eY:Array Oper:=match rD with| .seq _ (.block _ (.seq _ (.region _ o _)))=>o|_=>#[]
def mixed:prog.follows .mixedOrders=G_:=by kernel_rfl
def rdy{c f g j:Bool}(h:i∈Tx .any eY #[a,b,c,d,e,f,g,j]):(i=0/\a=E_)\/(i=1/\b=E_)\/(i=2/\c=E_/\b=G_)\/(i=3/\d=E_)\/(i=4/\e=E_/\d=G_)\/(i=5/\f=E_/\e=G_)\/
  (i=6/\g=E_/\a=G_/\c=G_)\/(i=7/\j=E_/\g=G_/\f=G_):=by
 unfold Tx at h;rw[Ua,YJ]at h;obtain⟨hi,k⟩:=h;have hi:i<8:=hi;simp only[eY,rD,fD,pY,f10,Sq]at k;obtain rfl|rfl|rfl|rfl|rfl|rfl|rfl|rfl:i=0\/i=1\/i=2\/i=3\/i=4\/i=5\/i=6\/i=7:=by omega
 all_goals(simp[Yw]at k;simp_all)
def bDi{c f g j k l:Bool}(h:Tx .any eY #[b,c,d,f,g,j,k,l]=[]):b=G_/\c=G_/\d=G_/\f=G_/\g=G_/\j=G_/\k=G_/\l=G_:=by
 have a:∀i,i<8->¬((!(#[b,c,d,f,g,j,k,l]:Array Bool).getD i G_&& ((eY[i]?).map (·.after.all λe=>!Region.binds .any e || (#[b,c,d,f,g,j,k,l]:Array Bool).getD e.on E_)).getD E_)=G_):=λi hi r=>by
  have:i∈Tx .any eY #[b,c,d,f,g,j,k,l]:=Ua.2 ⟨YJ.2 hi,r⟩;rw[h]at this;cases this
 have m:=a 0 o7;have k1:=a 1 o7;have k2:=a 2 o7;have k3:=a 3 o7;have n:=a 4 o7;have o:=a 5 o7;have p:=a 6 o7;have q:=a 7 o7;clear a h;simp only[eY,rD,fD,pY,f10,Sq]at m k1 k2 k3 n o p q;simp[Yw]at m k1 k2 k3 n o p q
 simp_all
def iD(b0 b1 b2 b3 b4 b5 b6 b7:Bool):Nat:=(!b0).toNat+(!b1).toNat+(!b2).toNat+(!b3).toNat+(!b4).toNat+(!b5).toNat+(!b6).toNat+(!b7).toNat
noncomputable def ans (t:ByteArray):D_:=.string (aQ (vC t.data.toList))
structure Mid(c:Cl)(J S:Nat->Prop)(j bk:Nat)(b:Bool)(w:C_):Prop where
 blk:w.heap[bk]? = A_ (.cells #[.int .i64 j,.string (c.tx j)] 45)
 dn:Done c.pl (λi=>ans (c.tx i)) J w
 own:S bk
 low:∀b,S b->c.N+5<=b
 fin:b=G_->Done c.pl (λi=>ans (c.tx i)) (plus J j) w
def Mid.rely(h:Mid c J S j bk b w)(r:Rl c.pl (plus J j) S w w₁):Mid c J S j bk b w₁:=
 ⟨(r.own bk h.own).trans h.blk,λi hi=>(r.cell i (.inl hi)).trans (h.dn i hi),h.own,h.low,λe=>(h.fin e).rely r⟩
def Mid.cell0(h:Mid c J S j bk b w):w.cell? ⟨bk,0,B_⟩=A_ (.int .i64 j):=by simp[SS,h.blk]
def Mid.cell1(h:Mid c J S j bk b w):w.cell? ⟨bk,1,B_⟩=A_ (.string (c.tx j)):=by simp[SS,h.blk]
def kF(h:Done c.pl (λi=>ans (c.tx i)) J w)(r:Rl c.pl J S w w₁):Done c.pl (λi=>ans (c.tx i)) J w₁:=h.rely r
def aN7{c f g i:Bool}(h:0=iD b c d e f g i a):a=G_:=by
 cases a
 ·simp[iD]at h
 ·rfl
def aBl{b d e f:D_}(l:Done c.pl (λi=>ans (c.tx i)) (plus J j) w):
  ∃r,Tree prog E_ (Rl c.pl (plus J j)) (DW c.pl (plus J j)) (iy c.pl (AtR c) (λi=>ans (c.tx i)) (plus J j)) r S (G ((base 10).at ⟨#[v0,.slice (A_ ⟨c.N,0,B_⟩) c.m c.m,p,q,.pointer (A_ ⟨bk,0,B_⟩),.chan (A_ (c.N+2)),s,t,u,v,b,d,e,f,g,k],[]⟩ (.inRegion eY []::[.inBlock 1,.inLoop fD,.inBlock 0])) [iE c,bot]) w:=by
 refine gL yM (λ_ w _=>yg w) (n:=10) ?_;have a:=l;clear l
 u_c RX kF a
 u_c R_ kF a
 u_c stepG_inLoop kF a
 simp only[fD,pY,f10,Sq]
 u_c Sy kF a
 u_reg kF a
 refine Ta λx h₁=>⟨.zero,λy o=>⟨⟨rfl,rfl,rfl,_,rfl,rfl,rfl,rfl⟩,(a.rely h₁).rely o⟩⟩
def op0{b d f n:D_}{a:List Nat}(k:∀o,Rl c.pl (plus J j) S w o->∃r,Tree prog E_ (Rl c.pl (plus J j)) (DW c.pl (plus J j)) (iy c.pl (AtR c) (λi=>ans (c.tx i)) (plus J j)) r S (G ((base 10).at ⟨#[v0,.slice (A_ ⟨c.N,0,B_⟩) c.m c.m,p,q,.pointer (A_ ⟨bk,0,B_⟩),.chan (A_ (c.N+2)),s,t,u,.slice (A_ ⟨c.N,0,B_⟩) c.m c.m,b,d,f,g,l,n],[]⟩ (.inRegion eY a::[.inBlock 1,.inLoop fD,.inBlock 0])) [iE c,bot]) o):
  ∃r,Tree prog E_ (Rl c.pl (plus J j)) (DW c.pl (plus J j)) (iy c.pl (AtR c) (λi=>ans (c.tx i)) (plus J j)) r S (G ((base 10).at ⟨#[v0,.slice (A_ ⟨c.N,0,B_⟩) c.m c.m,p,q,.pointer (A_ ⟨bk,0,B_⟩),.chan (A_ (c.N+2)),s,t,u,z,b,d,f,g,l,n],[]⟩ (.inRegion eY (0::a)::[.inBlock 1,.inLoop fD,.inBlock 0])) [iE c,bot]) w:=by
 simp only[eY,rD,fD,pY,f10,Sq]at k⊢;refine ig rfl λo h₁=>UE rfl rfl d7 λK v=>?_
 go_simp;refine v _ _ ⟨⟨wY _,λe x=>?_⟩,?_⟩
 ·have y:=UZ x;simp[go_sem]at y
 rw[lH _ rfl];exact k o h₁
def op1{o b d f:D_}{a:List Nat}(k:∀n,Rl c.pl (plus J j) S w n->∃r,Tree prog E_ (Rl c.pl (plus J j)) (DW c.pl (plus J j)) (iy c.pl (AtR c) (λi=>ans (c.tx i)) (plus J j)) r S (G ((base 10).at ⟨#[v0,.slice (A_ ⟨c.N,0,B_⟩) c.m c.m,p,q,.pointer (A_ ⟨bk,0,B_⟩),.chan (A_ (c.N+2)),s,t,u,v,.pointer (A_ ⟨bk,0,B_⟩),b,d,f,g,l],[]⟩ (.inRegion eY a::[.inBlock 1,.inLoop fD,.inBlock 0])) [iE c,bot]) n):
  ∃r,Tree prog E_ (Rl c.pl (plus J j)) (DW c.pl (plus J j)) (iy c.pl (AtR c) (λi=>ans (c.tx i)) (plus J j)) r S (G ((base 10).at ⟨#[v0,.slice (A_ ⟨c.N,0,B_⟩) c.m c.m,p,q,.pointer (A_ ⟨bk,0,B_⟩),.chan (A_ (c.N+2)),s,t,u,v,o,b,d,f,g,l],[]⟩ (.inRegion eY (1::a)::[.inBlock 1,.inLoop fD,.inBlock 0])) [iE c,bot]) w:=by
 simp only[eY,rD,fD,pY,f10,Sq]at k⊢;refine ig rfl λn h₁=>UE rfl rfl d7 λK x=>?_
 go_simp;refine x _ _ ⟨⟨wY _,λe y=>?_⟩,?_⟩
 ·have z:=UZ y;simp[go_sem]at z
 rw[lH _ rfl];exact k n h₁
def op2{n b d f:D_}{a:List Nat}(o:Mid c J S j bk E_ w\/Mid c J S j bk G_ w)(k:∀l,Rl c.pl (plus J j) S w l->∃r,Tree prog E_ (Rl c.pl (plus J j)) (DW c.pl (plus J j)) (iy c.pl (AtR c) (λi=>ans (c.tx i)) (plus J j)) r S (G ((base 10).at ⟨#[v0,.slice (A_ ⟨c.N,0,B_⟩) c.m c.m,q,s,.pointer (A_ ⟨bk,0,B_⟩),.chan (A_ (c.N+2)),t,u,v,x,.pointer (A_ ⟨bk,0,B_⟩),.int .i64 j,b,d,f,g],[]⟩ (.inRegion eY a::[.inBlock 1,.inLoop fD,.inBlock 0])) [iE c,bot]) l):
  ∃r,Tree prog E_ (Rl c.pl (plus J j)) (DW c.pl (plus J j)) (iy c.pl (AtR c) (λi=>ans (c.tx i)) (plus J j)) r S (G ((base 10).at ⟨#[v0,.slice (A_ ⟨c.N,0,B_⟩) c.m c.m,q,s,.pointer (A_ ⟨bk,0,B_⟩),.chan (A_ (c.N+2)),t,u,v,x,.pointer (A_ ⟨bk,0,B_⟩),n,b,d,f,g],[]⟩ (.inRegion eY (2::a)::[.inBlock 1,.inLoop fD,.inBlock 0])) [iE c,bot]) w:=by
 simp only[eY,rD,fD,pY,f10,Sq]at k⊢;refine ig rfl λl h₁=>UE rfl rfl d7 λK y=>?_
 have z:l.cell? ⟨bk,0,B_⟩=A_ (.int .i64 j):=o.elim (λh=>(h.rely h₁).cell0) λh=>(h.rely h₁).cell0
 have ho:S bk:=o.elim (·.own) (·.own);go_simp;refine y _ _ ⟨⟨wY _,λe A=>?_⟩,?_⟩
 ·have p:=UZ A;simp[go_sem,z]at p;subst p;exact Gg (.inl ho)
 rw[lH _ rfl];exact k l h₁
def op3{b d o f:D_}{a:List Nat}(k:∀n,Rl c.pl (plus J j) S w n->∃r,Tree prog E_ (Rl c.pl (plus J j)) (DW c.pl (plus J j)) (iy c.pl (AtR c) (λi=>ans (c.tx i)) (plus J j)) r S (G ((base 10).at ⟨#[v0,.slice (A_ ⟨c.N,0,B_⟩) c.m c.m,p,q,.pointer (A_ ⟨bk,0,B_⟩),.chan (A_ (c.N+2)),s,t,u,v,b,d,.pointer (A_ ⟨bk,1,B_⟩),f,g,l],[]⟩ (.inRegion eY a::[.inBlock 1,.inLoop fD,.inBlock 0])) [iE c,bot]) n):
  ∃r,Tree prog E_ (Rl c.pl (plus J j)) (DW c.pl (plus J j)) (iy c.pl (AtR c) (λi=>ans (c.tx i)) (plus J j)) r S (G ((base 10).at ⟨#[v0,.slice (A_ ⟨c.N,0,B_⟩) c.m c.m,p,q,.pointer (A_ ⟨bk,0,B_⟩),.chan (A_ (c.N+2)),s,t,u,v,b,d,o,f,g,l],[]⟩ (.inRegion eY (3::a)::[.inBlock 1,.inLoop fD,.inBlock 0])) [iE c,bot]) w:=by
 simp only[eY,rD,fD,pY,f10,Sq]at k⊢;refine ig rfl λn h₁=>UE rfl rfl d7 λK x=>?_
 go_simp;refine x _ _ ⟨⟨wY _,λe y=>?_⟩,?_⟩
 ·have z:=UZ y;simp[go_sem]at z
 rw[lH _ rfl];exact k n h₁
def op4{b d n f:D_}{a:List Nat}(o:Mid c J S j bk E_ w\/Mid c J S j bk G_ w)(k:∀l,Rl c.pl (plus J j) S w l->∃r,Tree prog E_ (Rl c.pl (plus J j)) (DW c.pl (plus J j)) (iy c.pl (AtR c) (λi=>ans (c.tx i)) (plus J j)) r S (G ((base 10).at ⟨#[v0,.slice (A_ ⟨c.N,0,B_⟩) c.m c.m,q,s,.pointer (A_ ⟨bk,0,B_⟩),.chan (A_ (c.N+2)),t,u,v,x,b,d,.pointer (A_ ⟨bk,1,B_⟩),.string (c.tx j),f,g],[]⟩ (.inRegion eY a::[.inBlock 1,.inLoop fD,.inBlock 0])) [iE c,bot]) l):
  ∃r,Tree prog E_ (Rl c.pl (plus J j)) (DW c.pl (plus J j)) (iy c.pl (AtR c) (λi=>ans (c.tx i)) (plus J j)) r S (G ((base 10).at ⟨#[v0,.slice (A_ ⟨c.N,0,B_⟩) c.m c.m,q,s,.pointer (A_ ⟨bk,0,B_⟩),.chan (A_ (c.N+2)),t,u,v,x,b,d,.pointer (A_ ⟨bk,1,B_⟩),n,f,g],[]⟩ (.inRegion eY (4::a)::[.inBlock 1,.inLoop fD,.inBlock 0])) [iE c,bot]) w:=by
 simp only[eY,rD,fD,pY,f10,Sq]at k⊢;refine ig rfl λl h₁=>UE rfl rfl d7 λK y=>?_
 have z:l.cell? ⟨bk,1,B_⟩=A_ (.string (c.tx j)):=o.elim (λh=>(h.rely h₁).cell1) λh=>(h.rely h₁).cell1
 have ho:S bk:=o.elim (·.own) (·.own);go_simp;refine y _ _ ⟨⟨wY _,λe A=>?_⟩,?_⟩
 ·have p:=UZ A;simp[go_sem,z]at p;subst p;exact Gg (.inl ho)
 rw[lH _ rfl];exact k l h₁
def op6{o b d f n:D_}{a:List Nat}(A:j<c.m)(k:∀l,Rl c.pl (plus J j) S w l->∃r,Tree prog E_ (Rl c.pl (plus J j)) (DW c.pl (plus J j)) (iy c.pl (AtR c) (λi=>ans (c.tx i)) (plus J j)) r S (G ((base 10).at ⟨#[v0,.slice (A_ ⟨c.N,0,B_⟩) c.m c.m,o,p,.pointer (A_ ⟨bk,0,B_⟩),.chan (A_ (c.N+2)),q,s,t,.slice (A_ ⟨c.N,0,B_⟩) c.m c.m,b,.int .i64 j,d,f,g,.pointer (A_ ⟨c.N,j,B_⟩)],[]⟩ (.inRegion eY a::[.inBlock 1,.inLoop fD,.inBlock 0])) [iE c,bot]) l):
  ∃r,Tree prog E_ (Rl c.pl (plus J j)) (DW c.pl (plus J j)) (iy c.pl (AtR c) (λi=>ans (c.tx i)) (plus J j)) r S (G ((base 10).at ⟨#[v0,.slice (A_ ⟨c.N,0,B_⟩) c.m c.m,o,p,.pointer (A_ ⟨bk,0,B_⟩),.chan (A_ (c.N+2)),q,s,t,.slice (A_ ⟨c.N,0,B_⟩) c.m c.m,b,.int .i64 j,d,f,g,n],[]⟩ (.inRegion eY (6::a)::[.inBlock 1,.inLoop fD,.inBlock 0])) [iE c,bot]) w:=by
 simp only[eY,rD,fD,pY,f10,Sq]at k⊢;refine ig rfl λl h₁=>UE rfl rfl d7 λK u=>?_
 have y:(j:Int)<(c.m:Int):=by omega
 have x:(0:Int)<=(j:Int):=by omega
 go_simp;refine u _ _ ⟨⟨wY _,λe v=>?_⟩,?_⟩
 ·have z:=UZ v;simp[go_sem, *]at z
 rw[lH _ rfl];exact k l h₁
def nm6:(f6.name == "runtime.NumGoroutine")=E_:=by kernel_rfl
def bBt(h:GI c.pl w)(a:j<c.m):∃u,w.cell? ⟨c.N,j,B_⟩=A_ u/\w.frozen? ⟨c.N,j,B_⟩=E_:=by
 obtain⟨cs,h1,h2⟩:=h.an;have h1:w.heap[c.N]? = A_ (.cells cs 9):=h1;have h2:cs.size=c.m:=h2;exact⟨cs[j]'o7,by simp[SS,h1,h2,a],by simp[WH,h1]⟩
def bBg(h:GI c.pl w)(_:j<c.m)(v:D_):Mw.Own c.pl (plus J j) S w (w.setCell ⟨c.N,j,B_⟩ v):=by
 have a:=TQ w ⟨c.N,j,B_⟩ v;obtain⟨cs,h1,h2⟩:=h.an;have h1:w.heap[c.N]? = A_ (.cells cs 9):=h1;have e:(w.setCell ⟨c.N,j,B_⟩ v).heap[c.N]? = A_ (.cells (cs.setIfInBounds j v) 9):=by rw[Zr w c.N j cs 9 (0,0) _ h1,ZE w c.N _ _ 9 _ h1]
 refine⟨λb _ _ f=>a.block b f,λ_=>⟨_,e,by simpa using h2⟩,λi hi=>?_,Nat.le_of_eq a.size.symm,zT a.os a.output⟩;have d:j≠i:=λe=>hi (.inr e.symm)
 show SS _ ⟨c.N,i,B_⟩=SS _ ⟨c.N,i,B_⟩;simp[SS,e,h1,Sg d]
def Mid.wrote(h:Mid c J S j bk E_ w)(g:GI c.pl w)(k:j<c.m):Mid c J S j bk G_ (w.setCell ⟨c.N,j,B_⟩ (ans (c.tx j))):=by
 have f:=TQ w ⟨c.N,j,B_⟩ (ans (c.tx j));obtain⟨cs,h1,h2⟩:=g.an;have h1:w.heap[c.N]? = A_ (.cells cs 9):=h1;have h2:cs.size=c.m:=h2;have e:(w.setCell ⟨c.N,j,B_⟩ (ans (c.tx j))).heap[c.N]? = A_ (.cells (cs.setIfInBounds j (ans (c.tx j))) 9):=by rw[Zr w c.N j cs 9 (0,0) _ h1,ZE w c.N _ _ 9 _ h1]
 have b:∀i,plus J j i->(w.setCell ⟨c.N,j,B_⟩ (ans (c.tx j))).cell? ⟨c.N,i,B_⟩=A_ (ans (c.tx i)):=λi hi=>by
  by_cases a:i=j
  ·subst a;simp[SS,e,h2,k]
  ·have d:=h.dn i (hi.resolve_right a);have d:w.cell? ⟨c.N,i,B_⟩=A_ (ans (c.tx i)):=d;rw[<-d];simp[SS,e,h1,Sg (λe=>a e.symm)]
 refine⟨(f.block bk (by have:=h.low bk h.own;show bk≠c.N;omega)).trans h.blk,λi hi=>b i (.inl hi),h.own,h.low,λ_ i hi=>b i hi⟩
def aBr(P:TB)(w:C_)(es:Array K_)(a:J_)(m:Mode)(b:ByteArray):(store a (.string b) m).events P w es=storedEv P w es a (.string b) m:=events_store P w es a _ m rfl
def op7{b d f:D_}{a:List Nat}(l:j<c.m)(B:Mid c J S j bk E_ w)(k:∀w',Mid c J S j bk G_ w'->∃r,Tree prog E_ (Rl c.pl (plus J j)) (DW c.pl (plus J j)) (iy c.pl (AtR c) (λi=>ans (c.tx i)) (plus J j)) r S (G ((base 10).at ⟨#[v0,.slice (A_ ⟨c.N,0,B_⟩) c.m c.m,s,t,.pointer (A_ ⟨bk,0,B_⟩),.chan (A_ (c.N+2)),v,x,y,z,b,d,f,g,ans (c.tx j),.pointer (A_ ⟨c.N,j,B_⟩)],[]⟩ (.inRegion eY a::[.inBlock 1,.inLoop fD,.inBlock 0])) [iE c,bot]) w'):
  ∃r,Tree prog E_ (Rl c.pl (plus J j)) (DW c.pl (plus J j)) (iy c.pl (AtR c) (λi=>ans (c.tx i)) (plus J j)) r S (G ((base 10).at ⟨#[v0,.slice (A_ ⟨c.N,0,B_⟩) c.m c.m,s,t,.pointer (A_ ⟨bk,0,B_⟩),.chan (A_ (c.N+2)),v,x,y,z,b,d,f,g,ans (c.tx j),.pointer (A_ ⟨c.N,j,B_⟩)],[]⟩ (.inRegion eY (7::a)::[.inBlock 1,.inLoop fD,.inBlock 0])) [iE c,bot]) w:=by
 simp only[eY,rD,fD,pY,f10,Sq,ans]at k⊢;refine ig rfl λD h₁=>UE rfl rfl d7 λK A=>?_
 obtain⟨u,n,q⟩:=bBt h₁.gi l;have p:=(B.rely h₁).wrote h₁.gi l;have ho:=bBg (J:=J) (S:=S) h₁.gi l (ans (c.tx j));unfold ans at p ho;simp[go_sem,stored,n,q];refine A _ _ ⟨⟨ho,λe C=>?_⟩,?_⟩
 ·have o:=UZ C;simp[go_sem,aBr,storedEv,n,q]at o;subst o;exact aS6 rfl (.inr rfl)
 rw[lH _ (TQ D ⟨c.N,j,B_⟩ _).size];exact k _ p
def op5{n:D_}{a:List Nat}(O:(c.tx j).size<=4000)(d:Mid c J S j bk E_ w)(k:∀S' w',Mid c J S' j bk E_ w'->∃r,Tree prog E_ (Rl c.pl (plus J j)) (DW c.pl (plus J j)) (iy c.pl (AtR c) (λi=>ans (c.tx i)) (plus J j)) r S' (G ((base 10).at ⟨#[v0,.slice (A_ ⟨c.N,0,B_⟩) c.m c.m,y,z,.pointer (A_ ⟨bk,0,B_⟩),.chan (A_ (c.N+2)),A,B,C,E,n,p,q,.string (c.tx j),ans (c.tx j),s],[]⟩ (.inRegion eY a::[.inBlock 1,.inLoop fD,.inBlock 0])) [iE c,bot]) w'):
  ∃r,Tree prog E_ (Rl c.pl (plus J j)) (DW c.pl (plus J j)) (iy c.pl (AtR c) (λi=>ans (c.tx i)) (plus J j)) r S (G ((base 10).at ⟨#[v0,.slice (A_ ⟨c.N,0,B_⟩) c.m c.m,y,z,.pointer (A_ ⟨bk,0,B_⟩),.chan (A_ (c.N+2)),A,B,C,E,n,p,q,.string (c.tx j),u,s],[]⟩ (.inRegion eY (5::a)::[.inBlock 1,.inLoop fD,.inBlock 0])) [iE c,bot]) w:=by
 refine ig rfl λP h₁=>?_
 have I:=h₁.gi;replace d:=d.rely h₁;clear h₁;refine goes_call (o:={ dst:=A_ 14,op:=.call { callee:=.value (.func 6),args:=#[.tmp 13],argTypes:=#[9] },type:=9,pos:= "many.go:49",after:=#[{ on:=4,ground:=.data }],guard:=B_ }) rfl rfl d7 rfl func6 nm6 rfl ⟨yg _,?_⟩;rw[lH _ rfl,←enter_at _ func6 rfl]
 have x:=aHx (main:=E_) (R:=Rs c.pl) (D:=Mw.Does (kW c.pl)) (Sh:=kW c.pl) (xs:=c.xs) (c:=(base 10).at ⟨#[v0,.slice (A_ ⟨c.N,0,B_⟩) c.m c.m,y,z,.pointer (A_ ⟨bk,0,B_⟩),.chan (A_ (c.N+2)),A,B,C,E,n,p,q,.string (c.tx j),u,s],[]⟩ (.inRegion eY (5::a)::[.inBlock 1,.inLoop fD,.inBlock 0])) (Cs:=[iE c,bot]) (W:=P) (c.tx j) O (λf H l k=>by
  simp only[SB,Ud,or_false]at H;rcases H with rfl|rfl|rfl
  ·simp[Frame.at]
  ·simp[iE,Frame.at]
  ·intro h;cases h) (λS W Q h=>h) (λ_ _ _ _ _ h=>h) (S:=λ_=>False) (wP I).gr (wP I).vs (λb v=>bDh v) (λb v=>Oe (c.sx b v).1 (c.sx b v).2)
 obtain⟨r,t⟩:=x;have fr:=aJi (J:=plus J j) (K:=J) (val:=λi=>ans (c.tx i)) (F:=S) (bk:=bk) (λ_=>.inl) d.low d.own (S₀:=λ_=>False) (λ_ h=>h.elim) id (lt_of_block d.blk) d.blk d.dn t;have M:(λb=>S b\/False)=S:=funext λb=>propext ⟨λh=>h.elim id False.elim,.inl⟩
 rw[M]at fr
 walk_nrm
 unfold G;refine fr.bind yM λS' g w' hr ⟨⟨S₀,hB⟩,⟨h1,h2⟩,h3,h4⟩=>?_
 unfold AA at hB;rw[hB,S_];replace k:=k S' w' ⟨h3,h4,h1 bk d.own,h2,λe=>by cases e⟩;clear fr t hB h1 h2 h3 h4 d hr;have L:(eY[5]?).bind (·.dst)=A_ 14:=rfl;rw[L];unfold ans at k;exact k
def aN8{c f:Bool}(h:n+1=iD E_ a b c d e f b7):n=iD G_ a b c d e f b7:=by
 simp only[iD,VO,Va,XE,Xk]at h⊢;omega
def aN9{c f:Bool}(h:n+1=iD a E_ b c d e f b7):n=iD a G_ b c d e f b7:=by
 simp only[iD,VO,Va,XE,Xk]at h⊢;omega
def aOa{c f:Bool}(h:n+1=iD a b E_ c d e f b7):n=iD a b G_ c d e f b7:=by
 simp only[iD,VO,Va,XE,Xk]at h⊢;omega
def aOb{c f:Bool}(h:n+1=iD a b c E_ d e f b7):n=iD a b c G_ d e f b7:=by
 simp only[iD,VO,Va,XE,Xk]at h⊢;omega
def aOc{c f:Bool}(h:n+1=iD a b c d E_ e f b7):n=iD a b c d G_ e f b7:=by
 simp only[iD,VO,Va,XE,Xk]at h⊢;omega
def aOd{c f:Bool}(h:n+1=iD a b c d e E_ f b7):n=iD a b c d e G_ f b7:=by
 simp only[iD,VO,Va,XE,Xk]at h⊢;omega
def aOe{c f:Bool}(h:n+1=iD a b c d e f E_ b7):n=iD a b c d e f G_ b7:=by
 simp only[iD,VO,Va,XE,Xk]at h⊢;omega
def aOf{c f g:Bool}(h:n+1=iD a b c d e f g E_):n=iD a b c d e f g G_:=by
 simp only[iD,VO,Va,XE,Xk]at h⊢;omega
def aE4(h:Mid c J S j bk b w):Mid c J S j bk E_ w\/Mid c J S j bk G_ w:=by
 cases b
 ·exact .inl h
 ·exact .inr h
def bDp(T:j<c.m)(U:(c.tx j).size<=4000):∀(a:Nat) (A B C D E y F g:Bool) (v0 M O P Q R L p q s u v x:D_) (t:Nat) (S:Nat->Prop) (w:C_),a=iD A B C D E y F g->(A=G_->L=.slice (A_ ⟨c.N,0,B_⟩) c.m c.m)->(B=G_->p=.pointer (A_ ⟨bk,0,B_⟩))->(C=G_->q=.int .i64 j)->(D=G_->s=.pointer (A_ ⟨bk,1,B_⟩))->(E=G_->u=.string (c.tx j))->(y=G_->v=ans (c.tx j))->(F=G_->x=.pointer (A_ ⟨c.N,j,B_⟩))->(y=E_->g=E_)->Mid c J S j bk g w->
  ∃r,Tree prog E_ (Rl c.pl (plus J j)) (DW c.pl (plus J j)) (iy c.pl (AtR c) (λi=>ans (c.tx i)) (plus J j)) r S (G ((base 10).at ⟨#[v0,.slice (A_ ⟨c.N,0,B_⟩) c.m c.m,M,O,.pointer (A_ ⟨bk,0,B_⟩),.chan (A_ (c.N+2)),P,Q,R,L,p,q,s,u,v,x],[]⟩ (.inRegion eY (VU .any eY a t #[A,B,C,D,E,y,F,g] [])::[.inBlock 1,.inLoop fD,.inBlock 0])) [iE c,bot]) w:=by
 intro a
 induction a with
 |zero=>
  intro A B C D E y F g v0 M O P Q R L p q s u v x t S w k h0 h1 h2 h3 l n o b d;have e:g=G_:=aN7 k;have I:VU .any eY 0 t #[A,B,C,D,E,y,F,g] []=[]:=by simp[VU]
  rw[I];exact aBl (d.fin e)
 |succ a ih=>
  intro A B C D E y F g v0 M O P Q R L p q s u v x t S w k h0 h1 h2 h3 l n o b d;rcases aXk .any eY a t #[A,B,C,D,E,y,F,g]with⟨K,I⟩|⟨i,hi,z,I⟩
  ·obtain⟨rfl,rfl,rfl,rfl,rfl,rfl,rfl,rfl⟩:=bDi K;rw[I];exact aBl (d.fin rfl)
  ·rw[I];rcases rdy hi with⟨rfl,rfl⟩|⟨rfl,rfl⟩|⟨rfl,rfl,rfl⟩|⟨rfl,rfl⟩|⟨rfl,rfl,rfl⟩|⟨rfl,rfl,rfl⟩|⟨rfl,rfl,rfl,rfl⟩|⟨rfl,rfl,rfl,rfl⟩
   ·simp only[Ue,UG];refine op0 λf h₁=>?_
    exact ih _ _ _ _ _ _ _ _ _ _ _ _ _ _ _ _ _ _ _ _ _ z S f (aN8 k) (λ_=>rfl) h1 h2 h3 l n o b (d.rely h₁)
   ·simp only[Ue,UG,UF];refine op1 λf h₁=>?_
    exact ih _ _ _ _ _ _ _ _ _ _ _ _ _ _ _ _ _ _ _ _ _ z S f (aN9 k) h0 (λ_=>rfl) h2 h3 l n o b (d.rely h₁)
   ·simp only[Ue,UG,UF];obtain rfl:=h1 rfl;refine op2 (aE4 d) λf h₁=>?_
    exact ih _ _ _ _ _ _ _ _ _ _ _ _ _ _ _ _ _ _ _ _ _ z S f (aOa k) h0 h1 (λ_=>rfl) h3 l n o b (d.rely h₁)
   ·simp only[Ue,UG,UF];refine op3 λf h₁=>?_
    exact ih _ _ _ _ _ _ _ _ _ _ _ _ _ _ _ _ _ _ _ _ _ z S f (aOb k) h0 h1 h2 (λ_=>rfl) l n o b (d.rely h₁)
   ·simp only[Ue,UG,UF];obtain rfl:=h3 rfl;refine op4 (aE4 d) λf h₁=>?_
    exact ih _ _ _ _ _ _ _ _ _ _ _ _ _ _ _ _ _ _ _ _ _ z S f (aOc k) h0 h1 h2 h3 (λ_=>rfl) n o b (d.rely h₁)
   ·simp only[Ue,UG,UF];obtain rfl:=l rfl;obtain rfl:g=E_:=b rfl;refine op5 U d λS' w' H=>?_
    exact ih _ _ _ _ _ _ _ _ _ _ _ _ _ _ _ _ _ _ _ _ _ z S' w' (aOd k) h0 h1 h2 h3 l (λ_=>rfl) o (λe=>by cases e) H
   ·simp only[Ue,UG,UF];obtain rfl:=h0 rfl;obtain rfl:=h2 rfl;refine op6 T λf h₁=>?_
    exact ih _ _ _ _ _ _ _ _ _ _ _ _ _ _ _ _ _ _ _ _ _ z S f (aOe k) h0 h1 h2 h3 l n (λ_=>rfl) b (d.rely h₁)
   ·simp only[Ue,UG,UF];obtain rfl:=o rfl;obtain rfl:=n rfl;refine op7 T d λw' H=>?_
    exact ih _ _ _ _ _ _ _ _ _ _ _ _ _ _ _ _ _ _ _ _ _ z S w' (aOf k) h0 h1 h2 h3 l n o (λe=>by cases e) H
def ql(c:Cl)(j:Nat):D_:=.agg #[.int .i64 j,.string (c.tx j)]
def tK(h:GI c.pl w/\Done c.pl (λi=>ans (c.tx i)) J w)(r:Rl c.pl (plus J j) S w w₁):GI c.pl w₁/\Done c.pl (λi=>ans (c.tx i)) J w₁:=⟨r.gi,λi hi=>(r.cell i (.inl hi)).trans (h.2 i hi)⟩
def Ke{o:Obj}{b:Nat}(h:b<w.heap.size):(w.alloc o).heap[b]? = w.heap[b]? :=by
 show(w.heap.push o)[b]? = _;rw[Array.getElem?_push_lt h,Array.getElem?_eq_getElem h]
def Kg{o:Obj}:(w.alloc o).heap.size=w.heap.size+1:=by
 show(w.heap.push o).size=_;simp
def bBf{o:Obj}(f:GI c.pl w):Mw.Own c.pl J S w (w.alloc o):=by
 have d:c.N<w.heap.size:=by
  have:c.N+5<=w.heap.size:=f.low;omega
 have a:(w.alloc o).heap[c.N]? = w.heap[c.N]? :=Ke d;exact⟨λb e _ _=>Ke e,λ⟨cs,h1,h2⟩=>⟨cs,a.trans h1,h2⟩,λj _=>UN a,by rw[Kg];omega,rfl⟩
def lays{o:Obj}(e:GI c.pl w)(a:∀b,S b->c.pl.Low<=b):(w.alloc o).heap[w.heap.size]? = A_ o/\c.N+5<=w.heap.size/\more S w (w.alloc o) w.heap.size/\∀b,more S w (w.alloc o) b->c.N+5<=b:=by
 have f:c.N+5<=w.heap.size:=e.low;refine⟨?_,f,.inr ⟨RQ _,by rw[Kg];omega⟩,λb d=>d.elim (a b) λh=>by omega⟩;show(w.heap.push o)[w.heap.size]? = _;simp
def aPz{o:Obj}(h:Done c.pl (λi=>ans (c.tx i)) J w)(b:GI c.pl w):Done c.pl (λi=>ans (c.tx i)) J (w.alloc o):=λi hi=>by
 have a:c.N<w.heap.size:=by
  have:c.N+5<=w.heap.size:=b.low;omega
 exact(UN (Ke (o:=o) a)).trans (h i hi)
def aJo(w:C_)(a b:J_)(x y:D_):((w.setCell a x).setCell b y).heap.size=w.heap.size:=(TQ _ b y).size.trans (TQ w a x).size
def Pm(w:C_)(x y:D_){b:Nat}(h:b≠bk):((w.setCell ⟨bk,0,B_⟩ x).setCell ⟨bk,1,B_⟩ y).heap[b]? = w.heap[b]? :=((TQ _ ⟨bk,1,B_⟩ y).block b h).trans ((TQ w ⟨bk,0,B_⟩ x).block b h)
def bBj(_:GI c.pl w)(h1:S bk)(h2:∀b,S b->c.N+5<=b):Mw.Own c.pl J S w ((w.setCell ⟨bk,0,B_⟩ x).setCell ⟨bk,1,B_⟩ y):=by
 have a:((w.setCell ⟨bk,0,B_⟩ x).setCell ⟨bk,1,B_⟩ y).heap[c.N]? = w.heap[c.N]? :=Pm w x y (by have:=h2 _ h1;omega);exact⟨λb _ d _=>Pm w x y λe=>d (e▸h1),λ⟨cs,k1,k2⟩=>⟨cs,a.trans k1,k2⟩,λj _=>UN a,Nat.le_of_eq (aJo w _ _ _ _).symm,(zT (TQ _ _ y).os (TQ _ _ y).output).trans (zT (TQ w _ x).os (TQ w _ x).output)⟩
def aYu(f:Done c.pl (λi=>ans (c.tx i)) J w)(a:w.heap[bk]? = A_ (.cells #[.int .i64 0,.string ⟨#[]⟩] 45))(h1:S bk)(h2:∀b,S b->c.N+5<=b):Mid c J S j bk E_ ((w.setCell ⟨bk,0,B_⟩ (.int .i64 j)).setCell ⟨bk,1,B_⟩ (.string (c.tx j))):=by
 have d:((w.setCell ⟨bk,0,B_⟩ (.int .i64 j)).setCell ⟨bk,1,B_⟩ (.string (c.tx j))).heap[c.N]? = w.heap[c.N]? :=Pm w _ _ (by have:=h2 _ h1;omega);refine⟨?_,λi hi=>(UN d).trans (f i hi),h1,h2,λe=>by cases e⟩
 have e1:(w.setCell ⟨bk,0,B_⟩ (.int .i64 j)).heap[bk]? = A_ (.cells #[.int .i64 j,.string ⟨#[]⟩] 45):=by
  rw[Zr w bk 0 _ 45 (0,0) _ a,ZE w bk _ _ 45 _ a];rfl
 rw[Zr _ bk 1 _ 45 (0,0) _ e1,ZE _ bk _ _ 45 _ e1];rfl
def aL4(g:H_)(J S:Nat->Prop)(w:C_)(j:Nat)(h:AtR c g)(E:GI c.pl w)(I:j<c.m)(D:Done c.pl (λi=>ans (c.tx i)) J w)(H:∀b,S b->c.pl.Low<=b)(L:(c.tx j).size<=4000):
  ∃r,Tree prog E_ (Rl c.pl (plus J j)) (DW c.pl (plus J j)) (iy c.pl (AtR c) (λi=>ans (c.tx i)) (plus J j)) r S (Wy (core g) (.tuple #[ql c j,.bool G_])) w:=by
 obtain⟨T,h1,h2,h3,C⟩:=Kk h;obtain⟨v0,v1,W,X,Y,V,Z,v7,v8,v9,M,O,P,Q,R,U,rfl⟩:=Qz T h2;have e1:v1=.slice (A_ ⟨c.N,0,B_⟩) c.m c.m:=by simpa using h3
 have F:V=.chan (A_ (c.N+2)):=by simpa using C
 subst e1 F;rw[h1];have e:∀T v,Wy (G (wM T) [iE c,bot]) v=G ((wM T).finish v) [iE c,bot]:=λ_ _=>rfl
 rw[e];unfold wM;rw[S_];have a:GI c.pl w/\Done c.pl (λi=>ans (c.tx i)) J w:=⟨E,D⟩;clear E D h h1 h2 h3 C e;refine gL yM (λ_ w _=>yg w) (n:=20) ?_;simp only[JG,rD,fD,pY,f10,Sq,ql]
 walk_nrm
 u_op tK a
 u_c RX tK a
 u_c Sy tK a
 u_cond G_ tK a
 u_c Ug tK a
 u_c Xx tK a
 u_c Sy tK a
 u_reg tK a
 u_op tK a
 refine Ta λw₁ h₁=>?_
 replace a:=tK a h₁;clear h₁;refine ig rfl λw₁ h₁=>UE rfl rfl d7 λK p=>?_
 replace a:=tK a h₁;go_simp;refine p _ _ ⟨⟨bBf a.1,λe q=>?_⟩,?_⟩
 ·have s:=UZ q;simp[go_sem]at s
 clear p K h₁;obtain⟨d,l,f⟩:=lays (c:=c) (o:=.cells #[.int .i64 0,.string ⟨#[]⟩] 45) a.1 H;replace a:=aPz (o:=.cells #[.int .i64 0,.string ⟨#[]⟩] 45) a.2 a.1
 revert a d l f
 generalize x:more S w₁ (w₁.alloc (.cells #[.int .i64 0,.string ⟨#[]⟩] 45))=S1;generalize z:w₁.alloc (.cells #[.int .i64 0,.string ⟨#[]⟩] 45)=w2;generalize y:w₁.heap.size=bk;clear x z y;intro d l f a;refine ig rfl λw₁ h₁=>UE rfl rfl d7 λK p=>?_
 replace a:GI c.pl w₁/\Done c.pl (λi=>ans (c.tx i)) J w₁:=⟨h₁.gi,λi hi=>(h₁.cell i (.inl hi)).trans (a i hi)⟩;replace d:=(h₁.own bk f.1).trans d;have t:w₁.cell? ⟨bk,0,B_⟩=A_ (.int .i64 0):=by simp[SS,d]
 have u:w₁.cell? ⟨bk,1,B_⟩=A_ (.string ⟨#[]⟩):=by simp[SS,d]
 have A:w₁.frozen? ⟨bk,0,B_⟩=E_:=by simp[WH,d]
 have B:w₁.frozen? ⟨bk,1,B_⟩=E_:=by simp[WH,d]
 simp[go_sem,stored,t,u,A,B];refine p _ _ ⟨⟨bBj a.1 f.1 f.2,λe q=>?_⟩,?_⟩
 ·have s:=UZ q;simp[go_sem,aBr,storedEv,t,u,A,B]at s;rcases s with rfl|rfl
  ·exact Gg (.inl f.1)
  ·exact Gg (.inl f.1)
 have k:=aYu a.2 d f.1 f.2 (j:=j);clear p K h₁ t u A B a d l;rw[lH _ (aJo _ _ _ _ _)]
 revert k
 generalize(w₁.setCell ⟨bk,0,B_⟩ (.int .i64 j)).setCell ⟨bk,1,B_⟩ (.string (c.tx j))=w3;intro k;refine gL yM (λ_ w _=>yg w) (n:=1) ?_
 u_c RX Mid.rely k
 refine Ta λw₁ h₁=>?_
 replace k:=k.rely h₁;clear h₁;refine ig rfl λw₁ h₁=>?_
 replace k:=k.rely h₁;rw[stepG_region_draw];simp only[ZO];refine⟨⟨⟨λ_ _ _ _=>rfl,id,λ_ _=>rfl,RQ _,rfl⟩,λe q=>by simp at q⟩,?_⟩;rw[lH S1 (w:=w₁) (w':={ w₁ with drawn:=w₁.drawn+1 }) rfl];simp only[Region.schedule,mixed,Bool.true_or,if_true];exact bDp I L 8 E_ E_ E_ E_ E_ E_ E_ E_ _ _ _ _ _ _ _ _ _ _ _ _ _ _ _ _ rfl s7 s7 s7 s7 s7 s7 s7 (λ_=>rfl) ⟨k.blk,k.dn,k.own,k.low,λe=>by cases e⟩
noncomputable def oQ:Code:=f4.body.getD .skip
noncomputable def rP:Code:=match oQ with| .seq _ (.seq _ (.seq _ (.seq _ (.seq _ (.seq (.seq _ (.block _ (.loop c))) _)))))=>c|_=>.skip
noncomputable def sZ:Code:=match oQ with| .seq _ (.seq _ (.seq _ (.seq _ (.seq _ (.seq _ c)))))=>c|_=>.skip
noncomputable def uq:Code:=match sZ with| .seq (.seq _ (.block _ (.loop c))) _=>c|_=>.skip
noncomputable def xq:Code:=match sZ with| .seq _ c=>c|_=>.skip
noncomputable def a17:Array Oper:=match xq with| .seq _ (.seq (.region _ o _) _)=>o|_=>#[]
noncomputable def Qk:Code:=match xq with| .seq _ (.seq _ c)=>c|_=>.skip
def aS(c:Cl)(g:H_)(_:C_):Prop:=g=born prog (Dc c)
def nm7:(f7.name == "runtime.NumGoroutine")=E_:=by kernel_rfl
def aZp:(f11.name == "runtime.NumGoroutine")=E_:=by kernel_rfl
def bF3(hi:i<W)(hW:W<=16){b e f j o H J L P S U:D_}(w:C_)(a:GI c.pl w)(k:∀(v1 Z v3 v4 v5 v9 b e f j l o p q r s t u v x y z A B C D E F H I J K L M O P Q R S T U V:D_) (w:C_),GI c.pl w->G0 prog c.pl X 90 (G ((base 4).at ⟨((.slice src c.m cap)::v1::Z::v3::v4::v5::(.pointer (A_ ⟨c.N+1,0,B_⟩))::(.pointer (A_ ⟨c.N+3,0,B_⟩))::(.pointer (A_ ⟨c.N+4,0,B_⟩))::v9::b::e::f::j::l::o::p::q::r::s::t::u::v::x::y::z::A::(.int .i64 W)::(.int .i64 (i+1:Nat))::B::C::D::E::F::H::I::J::K::L::M::O::P::Q::R::S::T::U::V::[]).toArray,[]⟩ [.code rP,.inLoop rP,.inBlock 0,.code sZ]) cs) w):
  G0 prog c.pl (AtKdS prog c.pl (aS c) i (λg w=>∃n,G0 prog c.pl X n g w)) 90 (G ((base 4).at ⟨((.slice src c.m cap)::v1::Z::v3::v4::v5::(.pointer (A_ ⟨c.N+1,0,B_⟩))::(.pointer (A_ ⟨c.N+3,0,B_⟩))::(.pointer (A_ ⟨c.N+4,0,B_⟩))::v9::b::e::f::j::l::o::p::q::r::s::t::u::v::x::y::z::A::(.int .i64 W)::(.int .i64 i)::B::C::D::E::F::H::I::J::K::L::M::O::P::Q::R::S::T::U::V::[]).toArray,[]⟩ [.code rP,.inLoop rP,.inBlock 0,.code sZ]) cs) w:=by
 have a0:(i:Int)<(W:Int):=by omega
 have Y:=@aK5 prog c.pl bU (aS c) (λg w=>∃n,G0 prog c.pl X n g w) i;simp only[body_add,addFn,Sq,Vp,Vq,Uv,Vy,Tn,TP]at Y;refine Goes.mono (n:=12+12) (uV a ?_) o7;simp only[rP,oQ,f4,Sq]at k⊢
 u_c Sy ay a
 u_reg ay a
 u_op ay a
 u_c RX ay a
 u_c Sy ay a
 u_cond G_ ay a
 u_c Ug ay a
 u_c Sy ay a
 u_c Xx ay a
 u_c Sy ay a
 u_reg ay a
 u_in ay a
 refine goes_call rfl rfl (by k_ne) rfl func7 nm7 rfl ⟨by u_nil,?_⟩
 walk_nrmf f7
 refine Ta λw₁ h₁=>?_
 replace a:=h₁.gi;clear h₁;refine Y (mT:=3) JH rfl o7 ?_ w₁ a;clear Y a;intro w a;refine lF kK ?_
 walk_nrm
 u_c RX ay a
 u_reg ay a
 u_op ay a
 refine Ta λw₁ h₁=>?_
 replace a:=h₁.gi;clear h₁;refine⟨rfl,_,_,(stepG_spawn (d:=Dc c) (w':=w₁) rfl rfl d7 (by unfold XQ;go_simp;rfl) rfl).trans (by rw[Hu (by unfold XQ;simp[go_sem])]),rfl,90+7,uV a ?_⟩
 walk_nrm
 u_c RX ay a
 u_c R_ ay a
 u_reg ay a
 u_op ay a
 u_op ay a
 u_c RX ay a
 u_c stepG_inLoop ay a
 have ew:IntKind.i64.wrap ((i:Int)+1)=((i+1:Nat):Int):=by rw[IntKind.wrap_i64];omega
 rw[ew];refine Ta λw₂ h₂=>?_
 exact k _ _ _ _ _ _ _ _ _ _ _ _ _ _ _ _ _ _ _ _ _ _ _ _ _ _ _ _ _ _ _ _ _ _ _ _ _ _ _ _ _ _ w₂ h₂.gi
def QA(c:Cl)(cs:List I_)(b:H_):Prop:=∃T:Array D_,b=G ((base 4).at ⟨T,[]⟩ [.inRegion a17 [],.code Qk]) cs/\T.size=48/\T[6]? = A_ (.pointer (A_ ⟨c.N+1,0,B_⟩))
def bE2(hi:i<c.m)(hm:c.m<=1000)(a1:src=c.src){o H J L P S U W:D_}(w:C_)(b:GI c.pl w)(k:∀(v0 v1 v2 v3 v4 v5 v9 l o p q r s t u v x y z A B C D E F H I J L M O P Q R S T U V W Y Z a0:D_) (w:C_),GI c.pl w->G0 prog c.pl X 60 (G ((base 4).at ⟨(v0::v1::v2::v3::v4::v5::(.pointer (A_ ⟨c.N+1,0,B_⟩))::(.pointer (A_ ⟨c.N+3,0,B_⟩))::(.pointer (A_ ⟨c.N+4,0,B_⟩))::v9::l::o::p::q::r::s::t::u::v::x::y::z::A::B::C::D::E::F::H::I::J::L::M::(.slice src c.m cap)::(.int .i64 c.m)::(.int .i64 (i+1:Nat))::O::P::Q::R::S::T::U::V::W::Y::Z::a0::[]).toArray,[]⟩ [.code uq,.inLoop uq,.inBlock 2,.code xq]) cs) w):
  G0 prog c.pl (Az prog c.pl (ql c) i (λg w=>∃n,G0 prog c.pl X n g w)) 60 (G ((base 4).at ⟨(v0::v1::v2::v3::v4::v5::(.pointer (A_ ⟨c.N+1,0,B_⟩))::(.pointer (A_ ⟨c.N+3,0,B_⟩))::(.pointer (A_ ⟨c.N+4,0,B_⟩))::v9::l::o::p::q::r::s::t::u::v::x::y::z::A::B::C::D::E::F::H::I::J::L::M::(.slice src c.m cap)::(.int .i64 c.m)::(.int .i64 i)::O::P::Q::R::S::T::U::V::W::Y::Z::a0::[]).toArray,[]⟩ [.code uq,.inLoop uq,.inBlock 2,.code xq]) cs) w:=by
 have a3:(i:Int)<(c.m:Int):=by omega
 have a2:(0:Int)<=(i:Int):=by omega
 subst a1;obtain⟨ad,d,_⟩:=(wP b).tx i hi;refine Goes.mono (n:=20+20) (uV b ?_) o7;simp only[uq,sZ,oQ,f4,Sq,d]at k⊢
 u_c Sy ay b
 u_reg ay b
 u_op ay b
 u_c RX ay b
 u_c Sy ay b
 u_cond G_ ay b
 u_c Ug ay b
 u_c Sy ay b
 u_c Xx ay b
 u_c Sy ay b
 u_reg ay b
 u_op ay b
 u_op ay b
 refine Ta λw₁ h₁=>?_
 replace b:=h₁.gi;clear h₁;refine Goes.step rfl λw₂ f=>UE rfl rfl d7 λK hK=>?_
 replace b:=f.gi
 have j:w₂.cell? (ad.add i)=A_ (.string (c.tx i)):=by
  obtain⟨a,ha,j⟩:=(wP b).tx i hi;rw[d]at ha;cases ha;exact j
 go_simp;refine hK _ _ ⟨⟨⟨rfl,rfl⟩,λe he=>?_⟩,?_⟩
 ·have hm:=UZ he;simp[go_sem,j]at hm;subst hm;exact Ld (by rw[zo];exact Oe (c.ss o7 ad d).1 (c.ss o7 ad d).2)
 clear hK K f j;refine Goes.mono (n:=14+5) (uV b ?_) o7
 u_op ay b
 u_op ay b
 u_c RX ay b
 u_reg ay b
 refine Ta λw₁ h₁=>?_
 replace b:=h₁.gi;clear h₁;refine Goes.step rfl λw₂ f=>UE rfl rfl d7 λK hK=>?_
 replace b:=f.gi;have j:=Gw b;go_simp;refine hK _ _ ⟨⟨⟨rfl,rfl⟩,λe he=>?_⟩,?_⟩
 ·have hm:=UZ he;simp[go_sem,j]at hm;subst hm;exact Ld Ew
 clear hK K f j;refine Goes.mono (n:=0+3) (uV b ?_) o7
 u_op ay b
 u_op ay b
 u_op ay b
 refine Ta λw₁ h₁=>?_
 refine Ta λw₂ f=>⟨rfl,.tuple #[],(stepG_comm (cases:=#[scase (c.N+2) (ql c i) (.tuple #[])]) (blocking:=G_) (shape:=.send) (w':=w₂) rfl rfl d7 (by unfold XQ;go_simp;rfl)).trans (by rw[Hu (by unfold XQ;simp[go_sem])];rfl),λw₃ h₃=>⟨60+7,uV h₃.gi ?_⟩⟩
 replace b:=h₃.gi;have es:∀fr,Wy (core (G fr cs)) undef=G (fr.finish undef) cs:=λ_=>rfl
 rw[es,S_];clear h₁ f h₃ es
 walk_nrm
 u_c RX ay b
 u_c R_ ay b
 u_reg ay b
 u_op ay b
 u_op ay b
 u_c RX ay b
 u_c stepG_inLoop ay b
 have ew:IntKind.i64.wrap ((i:Int)+1)=((i+1:Nat):Int):=by rw[IntKind.wrap_i64];omega
 rw[ew];exact Ta λw₂ f=>k _ _ _ _ _ _ _ _ _ _ _ _ _ _ _ _ _ _ _ _ _ _ _ _ _ _ _ _ _ _ _ _ _ _ _ _ _ _ _ _ _ _ w₂ f.gi
def bE3{i j o H J L P S U W X:D_}(w:C_)(a:GI c.pl w):G0 prog c.pl (Cw prog c.pl (rF bU c.pl (QA c cs))) 60 (G ((base 4).at ⟨(v0::v1::v2::v3::v4::v5::(.pointer (A_ ⟨c.N+1,0,B_⟩))::(.pointer (A_ ⟨c.N+3,0,B_⟩))::(.pointer (A_ ⟨c.N+4,0,B_⟩))::v9::g::i::j::k::l::o::p::q::t::u::v::x::y::z::A::B::C::D::E::F::H::I::J::(.slice src c.m cap)::(.int .i64 c.m)::(.int .i64 c.m)::L::M::O::P::Q::R::S::T::U::V::W::X::[]).toArray,[]⟩ [.code uq,.inLoop uq,.inBlock 2,.code xq]) cs) w:=by
 have a0:¬((c.m:Int)<(c.m:Int)):=by omega
 refine Goes.mono (n:=20+20) (uV a ?_) o7;simp only[uq,xq,sZ,oQ,f4,Sq]
 u_c Sy ay a
 u_reg ay a
 u_op ay a
 u_c RX ay a
 u_c Sy ay a
 u_cnd E_ ay a
 u_exit ay a
 u_c Sy ay a
 u_reg ay a
 refine Ta λb h₁=>?_
 replace a:=h₁.gi;clear h₁;refine Goes.step rfl λw₂ h₂=>UE rfl rfl d7 λK Z=>?_
 replace a:=h₂.gi;have hc:=Gw a;go_simp;refine Z _ _ ⟨⟨⟨rfl,rfl⟩,λe d=>?_⟩,?_⟩
 ·have hm:=UZ d;simp[go_sem,hc]at hm;subst hm;exact Ld Ew
 clear Z K h₂ hc;refine Ta λb h₁=>⟨rfl,rfl,λs r f=>⟨_,_,stepG_close rfl rfl d7 rfl (c:=c.N+2) rfl f k7,λe d=>?_,rfl,3+6,?_⟩⟩
 ·simp only[closeEvents,List.mem_toArray,SB,Ud,or_false]at d;rcases d with rfl|rfl
  ·exact⟨_,rfl⟩
  ·exact⟨_,rfl⟩
 have hg:GI c.pl (b.setChan c.pl.Ch 0 #[] G_ s r E_):=Di h₁.gi b.drawn s r G_
 revert hg
 generalize b.setChan c.pl.Ch 0 #[] G_ s r E_=w2;intro a;have Y:=@bIo prog c.pl bU;simp only[body_wait,waitFn,Sq,Vp,Vq,Uv,Vy,Tn,TP]at Y;refine uV a ?_
 walk_nrm
 u_c RX ay a
 u_c Sy ay a
 u_reg ay a
 u_in ay a
 refine goes_call rfl rfl (by k_ne) rfl func11 aZp rfl ⟨by u_nil,?_⟩
 walk_nrmf f11
 refine Ta λb h₁=>?_
 exact Y JH ⟨_,rfl,rfl,rfl⟩ b h₁.gi
noncomputable def Xs (c:Cl) (cs:List I_):Nat->H_->C_->Prop
 |0=>Cw prog c.pl (rF bU c.pl (QA c cs))
 |r+1=>Az prog c.pl (ql c) (c.m - (r+1)) (vL prog c.pl (ql c) (rF bU c.pl (QA c cs)) r)
def aId(r:Nat):vL prog c.pl (ql c) (rF bU c.pl (QA c cs)) r=λg w=>∃n,G0 prog c.pl (Xs c cs r) n g w:=by
 cases r<;>rfl
def bFv(Z:c.m<=1000)(S:src=c.src):∀(r i:Nat),i+r=c.m->∀(v0 v1 U V W X Y a b d f g j k l n o p q s t u v x y z A B C D E F H I J K L M O P Q R:D_) (w:C_),GI c.pl w->G0 prog c.pl (Xs c cs r) 60 (G ((base 4).at ⟨(v0::v1::U::V::W::X::(.pointer (A_ ⟨c.N+1,0,B_⟩))::(.pointer (A_ ⟨c.N+3,0,B_⟩))::(.pointer (A_ ⟨c.N+4,0,B_⟩))::Y::a::b::d::f::g::j::k::l::n::o::p::q::s::t::u::v::x::y::z::A::B::C::D::(.slice src c.m cap)::(.int .i64 c.m)::(.int .i64 i)::E::F::H::I::J::K::L::M::O::P::Q::R::[]).toArray,[]⟩ [.code uq,.inLoop uq,.inBlock 2,.code xq]) cs) w:=by
 intro r
 induction r with
 |zero=>
  intro i hi v0 v1 U V W X Y a b d f g j k l n o p q s t u v x y z A B C D E F H I J K L M O P Q R w T;obtain rfl:i=c.m:=by omega
  exact bE3 w T
 |succ r ih=>
  intro i hi v0 v1 U V W X Y a b d f g j k l n o p q s t u v x y z A B C D E F H I J K L M O P Q R w T;have e:c.m - (r+1)=i:=by omega
  show G0 _ _ (Az prog c.pl (ql c) (c.m - (r+1)) (vL prog c.pl (ql c) (rF bU c.pl (QA c cs)) r)) 60 _ w;rw[e,aId];exact bE2 o7 Z S w T (ih (i+1) o7)
def bF4(V:c.m<=1000)(b:src=c.src){d e f i j o H J L P S:D_}(w:C_)(a:GI c.pl w):G0 prog c.pl (Xs c cs c.m) 90 (G ((base 4).at ⟨((.slice src c.m cap)::v1::Y::Z::v4::v5::(.pointer (A_ ⟨c.N+1,0,B_⟩))::(.pointer (A_ ⟨c.N+3,0,B_⟩))::(.pointer (A_ ⟨c.N+4,0,B_⟩))::v9::d::e::f::g::i::j::k::l::o::p::q::r::s::t::u::v::x::(.int .i64 W)::(.int .i64 W)::y::z::A::B::C::D::E::F::H::I::J::K::L::M::O::P::Q::R::S::[]).toArray,[]⟩ [.code rP,.inLoop rP,.inBlock 0,.code sZ]) cs) w:=by
 have U:¬((W:Int)<(W:Int)):=by omega
 subst b;have hk:=bFv (cs:=cs) (cap:=cap) (src:=c.src) V rfl c.m 0 o7;have T:((0:Nat):Int)=0:=rfl;rw[T]at hk;refine Goes.mono (n:=60+20) (uV a ?_) o7;simp only[rP,sZ,uq,xq,oQ,f4,Sq]at hk⊢
 u_c Sy ay a
 u_reg ay a
 u_op ay a
 u_c RX ay a
 u_c Sy ay a
 u_cnd E_ ay a
 u_exit ay a
 u_c Sy ay a
 u_c Sy ay a
 u_reg ay a
 u_op ay a
 u_op ay a
 u_op ay a
 u_c RX ay a
 u_c Xx ay a
 u_c stepG_loop ay a
 exact Ta λw₂ X=>hk _ _ _ _ _ _ _ _ _ _ _ _ _ _ _ _ _ _ _ _ _ _ _ _ _ _ _ _ _ _ _ _ _ _ _ _ _ _ _ _ _ _ w₂ X.gi
noncomputable def Xp (c:Cl) (W:Nat) (cs:List I_):Nat->H_->C_->Prop
 |0=>Xs c cs c.m
 |r+1=>AtKdS prog c.pl (aS c) (W - (r+1)) (Sp prog c.pl W (aS c) (ql c) (rF bU c.pl (QA c cs)) r)
def aIh(r:Nat):Sp prog c.pl W (aS c) (ql c) (rF bU c.pl (QA c cs)) r=λg w=>∃n,G0 prog c.pl (Xp c W cs r) n g w:=by
 cases r with
 |zero=>exact aId _
 |succ r=>rfl
def bF1(hW:W<=16)(hm:c.m<=1000)(T:src=c.src):∀(r i:Nat),i+r=W->∀(v1 V X Y Z v9 a b d f g j k l n o p q s t u v x y z A B C D E F H I J K L M O P Q R S:D_) (w:C_),GI c.pl w->G0 prog c.pl (Xp c W cs r) 90 (G ((base 4).at ⟨((.slice src c.m cap)::v1::V::X::Y::Z::(.pointer (A_ ⟨c.N+1,0,B_⟩))::(.pointer (A_ ⟨c.N+3,0,B_⟩))::(.pointer (A_ ⟨c.N+4,0,B_⟩))::v9::a::b::d::f::g::j::k::l::n::o::p::q::s::t::u::v::x::(.int .i64 W)::(.int .i64 i)::y::z::A::B::C::D::E::F::H::I::J::K::L::M::O::P::Q::R::S::[]).toArray,[]⟩ [.code rP,.inLoop rP,.inBlock 0,.code sZ]) cs) w:=by
 intro r
 induction r with
 |zero=>
  intro i hi v1 V X Y Z v9 a b d f g j k l n o p q s t u v x y z A B C D E F H I J K L M O P Q R S w U;obtain rfl:i=W:=by omega
  exact bF4 hm T w U
 |succ r ih=>
  intro i hi v1 V X Y Z v9 a b d f g j k l n o p q s t u v x y z A B C D E F H I J K L M O P Q R S w U;have e:W - (r+1)=i:=by omega
  show G0 _ _ (AtKdS prog c.pl (aS c) (W - (r+1)) (Sp prog c.pl W (aS c) (ql c) (rF bU c.pl (QA c cs)) r)) 90 _ w;rw[e,aIh];exact bF3 o7 hW w U (ih (i+1) o7)
def uY(N m:Nat):Array Obj:=#[.cells (UJ m (.string ⟨#[]⟩)) 9,.cells #[.slice (A_ ⟨N,0,B_⟩) m m] 22,.chan 0 #[] E_ 0 0 E_,.cells #[.chan (A_ (N+2))] 31,.cells #[.int .u64 0,.int .u32 0] 41]
def Fa(N m W:Nat)(src:Option J_)(cap:Nat)(cs:List I_)(g:H_):Prop:=∃T:Array D_,g=G ((base 4).at ⟨T,[]⟩ [.code rP,.inLoop rP,.inBlock 0,.code sZ]) cs/\T.size=48/\T[0]? = A_ (.slice src m cap)/\T[6]? = A_ (.pointer (A_ ⟨N+1,0,B_⟩))/\T[7]? = A_ (.pointer (A_ ⟨N+3,0,B_⟩))/\T[8]? = A_ (.pointer (A_ ⟨N+4,0,B_⟩))/\T[27]? = A_ (.int .i64 W)/\T[28]? = A_ (.int .i64 0)
def EM{o:Obj}:w.heap.size<=(w.alloc o).heap.size:=by rw[Kg];omega
def mkS(a:m<=5)(w:C_):(Instr.makeSlice 22 (.int .i64 m) (.int .i64 m)).run prog w=.ok (.slice (A_ ⟨w.heap.size,0,B_⟩) m m) (w.alloc (.cells (UJ m (.string ⟨#[]⟩)) 9)):=by
 obtain rfl|rfl|rfl|rfl|rfl|rfl:m=0\/m=1\/m=2\/m=3\/m=4\/m=5:=by omega
 all_goals kernel_rfl
def bJi(a:m<=5)(w:C_)(es:Array K_):(Instr.makeSlice 22 (.int .i64 m) (.int .i64 m)).events prog w es=es:=by
 obtain rfl|rfl|rfl|rfl|rfl|rfl:m=0\/m=1\/m=2\/m=3\/m=4\/m=5:=by omega
 all_goals kernel_rfl
def mkC(a:Act)(w:C_):(XQ a.eval { dst:=A_ 26,op:=.makeChan 31 (.const (.int .i64 0)),type:=31,pos:= "many.go:29",after:=#[],guard:=B_ }).run prog w=.ok (.value (.chan (A_ w.heap.size))) (w.alloc (.chan 0 #[] E_ 0 0 E_)):=by kernel_rfl
def aYy(a:Act)(w:C_):(XQ a.eval { dst:=A_ 26,op:=.makeChan 31 (.const (.int .i64 0)),type:=31,pos:= "many.go:29",after:=#[],guard:=B_ }).events prog w #[]=#[]:=by kernel_rfl
noncomputable def a3:Array Oper:=match oQ with| .seq _ (.seq _ (.seq (.region _ o _) _))=>o|_=>#[]
noncomputable def c4:Code:=match oQ with| .seq _ (.seq _ (.seq _ c))=>c|_=>.skip
def aS2(P:TB)(w:C_)(es:Array K_)(a:J_)(m:Mode)(b:Option Nat):(store a (.chan b) m).events P w es=storedEv P w es a (.chan b) m:=events_store P w es a _ m rfl
def preB(f:m<=5){v6 v7 v8 J L N P X a1 a2 a4 a5 a6 a7 a8 a9 b0:D_}(w:C_)(a:HE H #[] o w)(h1:∀k,¬Sh (.cell ⟨H.size+1,k,B_⟩)/\¬U (.cell ⟨H.size+1,k,B_⟩))(h3:∀k,¬Sh (.cell ⟨H.size+3,k,B_⟩)/\¬U (.cell ⟨H.size+3,k,B_⟩)):
  ∃r,Tree prog G_ (λ_=>AtRel) (DA Sh U NR) (λ_ g w=>Fa H.size m W src cap cs g/\HE H (uY H.size m) o w) r S (G ((base 4).at ⟨((.slice src m cap)::(.int .i64 W)::v2::v3::v4::v5::v6::v7::v8::v9::q::s::t::u::x::y::z::A::B::C::D::E::F::I::(.int .i64 m)::J::L::M::N::O::P::Q::R::T::V::X::Y::Z::a0::a1::a2::a4::a5::a6::a7::a8::a9::b0::[]).toArray,[]⟩ [.inRegion a3 [2,3,4],.code c4]) cs) w:=by
 simp only[a3,c4,oQ,f4,Sq];refine ig rfl λb h₁=>UE rfl rfl d7 λK d=>?_
 replace a:=a.at h₁;have p:=mkS f b;rw[a.size]at p;simp only[UQ,Ui,Nat.add_zero]at p;go_simp;refine d _ _ ⟨⟨EM,λe j=>?_⟩,?_⟩
 ·have f:=UZ j;simp[go_sem,bJi ‹m<=5›]at f
 clear d K h₁ p;replace a:=a.alloc (.cells (UJ m (.string ⟨#[]⟩)) 9)
 revert a
 generalize b.alloc (.cells (UJ m (.string ⟨#[]⟩)) 9)=w2;intro a;refine ig rfl λb h₁=>UE rfl rfl d7 λK d=>?_
 replace a:=a.at h₁;have c:=a.size;simp only[UQ,SC,Ui,Vz,Uv,Tn]at c;go_simp;refine d _ _ ⟨⟨EM,λe j=>?_⟩,?_⟩
 ·have f:=UZ j;simp[go_sem]at f
 clear d K h₁;try rw[c]
 replace a:=a.alloc (.cells #[.slice B_ 0 0] 22)
 revert a
 generalize b.alloc (.cells #[.slice B_ 0 0] 22)=w2;intro a;clear c;refine ig rfl λb h₁=>UE rfl rfl d7 λK d=>?_
 replace a:=a.at h₁;have l:=a.cell (k:=1) rfl;have c:=a.thaw (k:=1) rfl;have i:=a.size;simp only[UQ,SC,Ui,Vz,Ws,Uv,TP,Tn]at i;simp[go_sem,stored,l,c];refine d _ _ ⟨⟨Nat.le_of_eq (TQ b _ _).size.symm,λe j=>?_⟩,?_⟩
 ·have f:=UZ j;simp[go_sem,events_store_slice,storedEv,l,c]at f;subst f;exact zK (h1 0).1 (h1 0).2 (by rw[(TQ b _ _).size,i];show H.size+1<_;omega)
 clear d K h₁ l c i;replace a:=a.set (k:=1) (v:=.slice (A_ ⟨H.size,0,B_⟩) m m) rfl
 revert a
 generalize b.setCell ⟨H.size+1,0,B_⟩ (.slice (A_ ⟨H.size,0,B_⟩) m m)=w2;intro a;refine gL ji jG (n:=3) ?_
 u_c RX HE.at a
 u_c Sy HE.at a
 u_reg HE.at a
 refine Ta λb h₁=>?_
 replace a:=a.at h₁;clear h₁;refine ig rfl λb h₁=>?_
 replace a:=a.at h₁;have c:=a.size;simp only[UQ,SC,Ui,Vz,Ws,Uv,TP,Tn,Ue,UG,UF]at c;rw[stepG_value (v:=.chan (A_ b.heap.size)) (w':=b.alloc (.chan 0 #[] E_ 0 0 E_)) rfl rfl d7 (mkC _ b),Hu (aYy _ b)];simp only[ZO];refine⟨⟨EM,λe j=>by simp at j⟩,?_⟩
 walk_nrm
 rw[c];replace a:=a.alloc (.chan 0 #[] E_ 0 0 E_)
 revert a
 generalize b.alloc (.chan 0 #[] E_ 0 0 E_)=w2;intro a;clear c h₁;refine ig rfl λb h₁=>UE rfl rfl d7 λK d=>?_
 replace a:=a.at h₁;have c:=a.size;simp only[UQ,SC,Ui,Vz,Ws,Uv,TP,Tn,Ue,UG,UF]at c;go_simp;refine d _ _ ⟨⟨EM,λe j=>?_⟩,?_⟩
 ·have f:=UZ j;simp[go_sem]at f
 clear d K h₁;try rw[c]
 replace a:=a.alloc (.cells #[.chan B_] 31)
 revert a
 generalize b.alloc (.cells #[.chan B_] 31)=w2;intro a;clear c;refine ig rfl λb h₁=>UE rfl rfl d7 λK d=>?_
 replace a:=a.at h₁;have l:=a.cell (k:=3) rfl;have c:=a.thaw (k:=3) rfl;have i:=a.size;simp only[UQ,SC,Ui,Vz,Ws,Uv,TP,Tn,Ue,UG,UF]at i;simp[go_sem,stored,l,c];refine d _ _ ⟨⟨Nat.le_of_eq (TQ b _ _).size.symm,λe j=>?_⟩,?_⟩
 ·have f:=UZ j;simp[go_sem,aS2,storedEv,l,c]at f;subst f;exact zK (h3 0).1 (h3 0).2 (by rw[(TQ b _ _).size,i];show H.size+3<_;omega)
 clear d K h₁ l c i;replace a:=a.set (k:=3) (v:=.chan (A_ (H.size+2))) rfl
 revert a
 generalize b.setCell ⟨H.size+3,0,B_⟩ (.chan (A_ (H.size+2)))=w2;intro a;refine gL ji jG (n:=3) ?_
 u_c RX HE.at a
 u_c Sy HE.at a
 u_reg HE.at a
 refine Ta λb h₁=>?_
 replace a:=a.at h₁;clear h₁;refine ig rfl λb h₁=>UE rfl rfl d7 λK d=>?_
 replace a:=a.at h₁;have c:=a.size;simp only[UQ,SC,Ui,Vz,Ws,Uv,TP,Tn,Ue,UG,UF]at c;go_simp;refine d _ _ ⟨⟨EM,λe j=>?_⟩,?_⟩
 ·have f:=UZ j;simp[go_sem]at f
 clear d K h₁;try rw[c]
 replace a:=a.alloc (.cells #[.int .u64 0,.int .u32 0] 41)
 revert a
 generalize b.alloc (.cells #[.int .u64 0,.int .u32 0] 41)=w2;intro a;clear c;refine gL ji jG (n:=10) ?_
 u_c RX HE.at a
 u_c Sy HE.at a
 u_c Sy HE.at a
 u_reg HE.at a
 u_op HE.at a
 u_op HE.at a
 u_c RX HE.at a
 u_c Xx HE.at a
 u_c stepG_loop HE.at a
 refine Ta λb h₁=>⟨.zero,λw₂ h₂=>⟨⟨_,rfl,rfl,rfl,rfl,rfl,rfl,rfl,rfl⟩,(a.at h₁).at h₂⟩⟩
def bCa(c:m<=5)(j:1<=W)(b:W<=16)(w:C_)(a:HE H #[] o w)(h1:∀k,¬Sh (.cell ⟨H.size+1,k,B_⟩)/\¬U (.cell ⟨H.size+1,k,B_⟩))(h3:∀k,¬Sh (.cell ⟨H.size+3,k,B_⟩)/\¬U (.cell ⟨H.size+3,k,B_⟩)):
  ∃r,Tree prog G_ (λ_=>AtRel) (DA Sh U NR) (λ_ g w=>Fa H.size m W src cap cs g/\HE H (uY H.size m) o w) r S (G ((base 4).at ⟨(Value.slice src m cap::Value.int .i64 W::undef::undef::undef::undef::undef::undef::undef::undef::undef::undef::undef::undef::undef::undef::undef::undef::undef::undef::undef::undef::undef::undef::undef::undef::undef::undef::undef::undef::undef::undef::undef::undef::undef::undef::undef::undef::undef::undef::undef::undef::undef::undef::undef::undef::undef::undef::[]).toArray,[]⟩ [.code oQ]) cs) w:=by
 have e:¬((50:Int)<(m:Int)):=by omega
 have f:¬((W:Int)<1):=by omega
 have i:¬((16:Int)<(W:Int)):=by omega
 refine gL ji jG (n:=40) ?_;simp only[oQ,f4,Sq]
 iterate 26 (first|u_c Sy HE.at a|u_c Ug HE.at a|u_c RX HE.at a|u_reg HE.at a|u_cond G_ HE.at a|u_cond E_ HE.at a|u_skip HE.at a|u_op HE.at a)
 exact Ta λd h₁=>preB c d (a.at h₁) h1 h3
def work(f:∀j,j<c.m->(c.tx j).size<=4000):Work prog c.pl (AtR c) zJ (λi=>ans (c.tx i)) (ql c):=
 ⟨aL6,λg w h a=>aL5 g w h a,aL3,λg J S w j h a d b e=>aL4 g J S w j h a d b e (f j d),λg J S w h a b _=>aL7 g J S w h a b⟩
def aUx(f:c.N=H.size)(q:c.H=H)(ho:c.o=o)(d:HE H (uY H.size c.m) o w)(hgr:Rn.Ground lim (7+1) c.xs w)(hv:bE w)(g:∀j,j<c.m->∃a,c.src=A_ a/\w.cell? (a.add j)=A_ (.string (c.tx j))):
  GI c.pl w/\WgAt c.pl.ty c.pl.Wg w 0 0/\gU c.pl E_ w:=by
 have l:w.heap[c.N]? = (uY H.size c.m)[0]? :=by rw[f];exact d.get 0
 have e1:w.heap[c.N+1]? = (uY H.size c.m)[1]? :=by rw[f];exact d.get 1
 have e2:w.heap[c.N+2]? = (uY H.size c.m)[2]? :=by rw[f];exact d.get 2
 have n:w.heap[c.N+3]? = (uY H.size c.m)[3]? :=by rw[f];exact d.get 3
 have p:w.heap[c.N+4]? = (uY H.size c.m)[4]? :=by rw[f];exact d.get 4
 have k:WgAt c.pl.ty c.pl.Wg w 0 0:=p;have i:gU c.pl E_ w:=⟨0,0,e2⟩;refine⟨⟨⟨_,_,k⟩,⟨_,i⟩,⟨_,l,by simp[Cl.pl]⟩,?_,⟨?_,?_,hgr,hv,g,λb r _=>by rw[q];exact d.old o7,by rw[ho];exact d.2⟩⟩,k,i⟩
 ·have:=d.size;have e:(uY H.size c.m).size=5:=rfl;show c.N+5<=_;omega
 ·rw[n,f];rfl
 ·rw[e1,f];rfl
def QB(T:Array D_)(h:T.size=48):∃v0 v1 v2 v3 v4 v5 v6 v7 v8 v9 v10 v11 v12 v13 v14 v15 v16 v17 v18 v19 v20 v21 v22 v23 v24 v25 v26 v27 v28 v29 v30 v31 v32 v33 v34 v35 v36 v37 v38 v39 v40 v41 v42 v43 v44 v45 v46 v47:D_,T=(v0::v1::v2::v3::v4::v5::v6::v7::v8::v9::v10::v11::v12::v13::v14::v15::v16::v17::v18::v19::v20::v21::v22::v23::v24::v25::v26::v27::v28::v29::v30::v31::v32::v33::v34::v35::v36::v37::v38::v39::v40::v41::v42::v43::v44::v45::v46::v47::[]).toArray:=by
 obtain⟨l⟩:=T
 match l,h with
 |v0::v1::v2::v3::v4::v5::v6::v7::v8::v9::v10::v11::v12::v13::v14::v15::v16::v17::v18::v19::v20::v21::v22::v23::v24::v25::v26::v27::v28::v29::v30::v31::v32::v33::v34::v35::v36::v37::v38::v39::v40::v41::v42::v43::v44::v45::v46::v47::[],_=>exact⟨v0,v1,v2,v3,v4,v5,v6,v7,v8,v9,v10,v11,v12,v13,v14,v15,v16,v17,v18,v19,v20,v21,v22,v23,v24,v25,v26,v27,v28,v29,v30,v31,v32,v33,v34,v35,v36,v37,v38,v39,v40,v41,v42,v43,v44,v45,v46,v47,rfl⟩
def aL2{a:H_}(n:c.m<=1000)(k:W<=16)(h:Fa c.N c.m W c.src cap cs a)(l:GI c.pl w):Sp prog c.pl W (aS c) (ql c) (rF bU c.pl (QA c cs)) W a w:=by
 obtain⟨T,rfl,e,h0,f,g,i,b,d⟩:=h;obtain⟨v0,v1,v2,v3,v4,v5,v6,v7,v8,v9,o,p,q,r,s,t,u,v,x,y,z,A,B,C,D,E,F,G,H,I,J,K,L,M,O,P,Q,R,S,U,V,X,Y,Z,a0,a1,a2,a3,rfl⟩:=QB T e;simp only[List.getElem?_toArray,Z_,List.getElem?_cons_succ,Sk]at h0 f g i b d;subst h0 f g i b d;rw[aIh];have j:(.int .i64 0:D_)=.int .i64 ((0:Nat):Int):=rfl;rw[j];exact⟨90,bF1 (cap:=cap) k n rfl W 0 o7 _ _ _ _ _ _ _ _ _ _ _ _ _ _ _ _ _ _ _ _ _ _ _ _ _ _ _ _ _ _ _ _ _ _ _ _ _ _ _ _ _ _  w l⟩
def aLg(B:∀j,j<c.m->(c.tx j).size<=4000)(A:c.m<=1000)(d:0<W)(u:W<=16){gs:Array H_}{a:H_}{sl:Option (Nat×Nat)}{t:Trace}{q:Nat->Nat}(y:gs.size<=1000)(h0:gs[0]? = A_ a)(r:Leavers prog t gs q)(e:JV c.pl gs.size w.heap.size t)(v:Fa c.N c.m W c.src cap cs a)(s:c.N=H.size)(l:c.H=H)(ho:c.o=o)(k:HE H (uY H.size c.m) o w)(hgr:Rn.Ground lim (7+1) c.xs w)(hv:bE w)(f:∀j,j<c.m->∃a,c.src=A_ a/\w.cell? (a.add j)=A_ (.string (c.tx j))):
  ∃n mc' t',runNT prog n (crowd gs w sl) t=(.next mc',t')/\Final prog c.pl (λi=>ans (c.tx i)) (JU prog (QA c cs)) (W+gs.size) mc' t':=by
 obtain⟨b,C,x⟩:=aUx s l ho k hgr hv f;obtain⟨μ,p⟩:=Inv.start (AtR:=AtR c) (z:=zJ) (val:=λi=>ans (c.tx i)) (Fin:=JU prog (QA c cs)) (sl:=sl) h0 r e b C x d (aL2 A u v b);exact pool (work B) (λg w h=>by obtain⟨_,_,_,_,_,_,rfl,_⟩:=h;rfl) (λg w b h=>bIm JH rfl (QA c cs) g w b h) (λg w b h=>by rw[h];exact kid w b) d o7 μ _ t p
def behind(c:Cl)(b₀:I_)(a₀:Act)(ops₀:Array Oper)(i₀:Nat)(rest₀:List Nat)(k₀:List Item)(cs:List I_):H_:=G (b₀.at (a₀.put ((ops₀[i₀]?).bind (·.dst)) (.tuple #[.slice (A_ ⟨c.N,0,B_⟩) c.m c.m,.nilIface])) (.inRegion ops₀ rest₀::k₀)) cs
def aFo{k:Nat}:¬dX c.pl (.cell ⟨c.N+1,k,B_⟩):=by
 rintro(⟨a,e,h⟩|⟨r,e,_⟩)
 ·cases e;rcases h with h|h
  ·have:c.N+1=c.N+4:=h;omega
  ·have:=(c.old _ (.inl h)).2;simp only at this;omega
 ·cases e
def aZ0{k:Nat}:¬dX c.pl (.cell ⟨c.N+3,k,B_⟩):=by
 rintro(⟨a,e,h⟩|⟨r,e,_⟩)
 ·cases e;rcases h with h|h
  ·have:c.N+3=c.N+4:=h;omega
  ·have:=(c.old _ (.inl h)).2;simp only at this;omega
 ·cases e
def back{b:H_}(h:QA c (b₀.at a₀ (.inRegion ops₀ (i₀::rest₀)::k₀)::cs) b)(a:w.heap=H/\(io w)=o)(j:w.heap[c.N+1]? = A_ (.cells #[.slice (A_ ⟨c.N,0,B_⟩) c.m c.m] 22)):
  ∃r,Tree prog G_ (λ_=>AtRel) (DA (dX c.pl) (λ_=>False) (λ_=>False)) (λ_ g w=>g=behind c b₀ a₀ ops₀ i₀ rest₀ k₀ cs/\w.heap=H/\(io w)=o) r S b w:=by
 rw[a.1]at j;obtain⟨T,rfl,i,k⟩:=h;obtain⟨v0,v1,v2,v3,v4,v5,v6,v7,v8,v9,u,v,x,y,z,A,B,C,D,E,F,G,I,J,L,M,O,P,Q,R,U,V,W,X,Y,Z,a0,a1,a2,a3,a4,a5,a6,a7,a8,a9,b0,b1,rfl⟩:=QB T i;simp only[List.getElem?_toArray,Z_,List.getElem?_cons_succ,Sk]at k;subst k;refine gL ji jG (n:=5) ?_;simp only[a17,Qk,xq,sZ,oQ,f4,Sq]
 u_c RX ka a
 u_c Sy ka a
 u_reg ka a
 refine Ta λf h₁=>?_
 replace a:=ka a h₁;clear h₁;refine ig rfl λf h₁=>UE rfl rfl d7 λK l=>?_
 replace a:=ka a h₁;have p:f.cell? ⟨c.N+1,0,B_⟩=A_ (.slice (A_ ⟨c.N,0,B_⟩) c.m c.m):=by simp[SS,a.1,j]
 have d:c.N+1<f.heap.size:=by rw[a.1];exact(Array.getElem?_eq_some_iff.1 j).1
 go_simp;refine l _ _ ⟨⟨RQ _,λe s=>?_⟩,?_⟩
 ·have q:=UZ s;simp[go_sem,p]at q;subst q;exact zK aFo (λh=>h) d
 clear l K h₁ p d;refine gL ji jG (n:=5) ?_
 u_op ka a
 u_op ka a
 u_c RX ka a
 u_c stepG_ret' ka a
 u_in ka a
 refine goes_leave2 rfl rfl func4 rfl ⟨by u_nil,?_⟩;exact Ta λf h₁=>⟨.zero,λw₂ t=>⟨rfl,ka (ka a h₁) t⟩⟩
end
end Go.Proofs.YtpodibeogglplaaGreatDoor
