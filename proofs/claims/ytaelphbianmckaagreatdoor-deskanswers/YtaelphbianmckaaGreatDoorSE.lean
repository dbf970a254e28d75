/- DeskAnswers -/
import Derived.Test.YtaelphbianmckaaGreatDoorSB
import Derived.Test.YtaelphbianmckaaGreatDoorSC
import Derived.Shelf.Spec.SlicesInsert
import Derived.Lib.AppendZerosOnto
open Go.Value renaming int->U, pointer->E, slice->J
open Go.IntKind renaming i64->G
open Go.Obj renaming cells->R
open Go.Ending renaming returned->Y
open Go.Proofs.Tryz
open Go.RowKit.Below renaming refl->aF, drew->aV, alloc->aS, setCell->eO
open Bool renaming and_eq_true->bE, or_eq_true->dR
open List renaming take_append_drop->dE, take_append_of_le_length->dP, length_take->bF, take_of_length_le->cO, length_append->aN, take_append->gO, drop_append->fD, drop_of_length_le->dX, nil_append->bX, append_assoc->dG, take_left'->gW, length_drop->dC, take_succ_cons->dY, take_left->gD, length_cons->aZ, length_nil->cU, range->dF, mem_range->gG, mem_cons->aR, set_append_right->fL, drop_eq_getElem_cons->bR, nodup_append->dO
open Nat renaming zero_le->aO, min_def->gZ, le_of_lt->eU, zero_add->bT, le_trans->aI, le_succ->cH, lt_or_ge->eE, lt_irrefl->eP, lt_succ_self->gP, lt_of_lt_of_le->aT
open Or renaming inr->aG, inl->aH
open Go.Proofs.YtaelphbianmckaaGreatDoor.Out renaming of_grown->dJ, of_below->aL, refl->bL
open Go.Value.slice renaming injEq->aY
open Go.Proofs.YtaelphbianmckaaGreatDoor.Went renaming refl->aJ
open Go.World renaming setRow->iC, news_of_block->bJ, ownsRow_nil->aU
set_option maxHeartbeats 4000000
set_option maxRecDepth 100000
namespace Go.Proofs.YtaelphbianmckaaGreatDoor
section
open Go.RowKit Go.Shelf
theorem jK0 {P:Program} (W:World) (q A B c:TypeId) (g o e l:Nat) (a:Addr) (d f:Nat) (b:Array Value) (t:TypeId) (cs:List Value) (k:Nat)
  (z:P.underlying q=some (.slice c)) (s:(P.info? c).map (·.size)=some 2) (r:bJ0 W g b t) (hk:Nat.min d e=k) (y:cs.length=k*2)
  (n:∀j v,cs[j]? = some v->W.cell? (a.add j)=some v) (m:o+cs.length<=b.size) (u:∀v∈cs,v.oneCell'=true):
  ∃W',(Builtin.copy_ #[q,A] B #[.slice (some ⟨g,o,none⟩) e l,.slice (some a) d f]).run P W=.ok (goInt k) W'
   /\W'.heap[g]? = some (.cells (b.toList.take o++cs++b.toList.drop (o+cs.length)).toArray t (0,0))/\Out (fun j=>j=g) W W':=by
 refine ⟨W.setRow g (b.toList.take o++cs++b.toList.drop (o+cs.length)).toArray,?_,setRow_heap W g _ _ t _ r,⟨rfl,rfl,rfl,by simp [iC],fun j _ w=>setRow_other W g j _ w⟩⟩;have p:=run_storeCells_at P g o t cs 0 b W r (by simpa using m) u;cases hq:P.info? c with
 | none=>simp [hq] at s
 | some i=>
  have hi:i.size=2:=by simpa [hq] using s
  have x:=run_firstCells_some (P:=P) W 2 k a d f cs y n;simp [Builtin.copy_,run_underlying z,Builtin.lenOf,sizeOf,typeInfo,hq,hi,hk,x,p]
theorem infoH:(prog.info? 240).map (fun i=>(i.zero,i.size,i.bytes))=some (some (.agg #[U G 0,U G 0]),2,16):=k7
theorem sizeH:(prog.info? 240).map (·.size)=some 2:=k7
theorem sizeOfH (w:World):(Go.sizeOf 240).run prog w=.ok 2 w:=k7
def eS0 (i:Nat) (x:Ly) (l:List Ly):List Ly:=l.take i++x::l.drop i
theorem qE0 {i:Nat} (x:Ly) {l:List Ly} (h:i<=l.length):(eS0 i x l).length=l.length+1:=by simp [eS0];omega
theorem gE1 (i:Nat) (x:Ly) (l:List Ly):hV (eS0 i x l)=hV (l.take i)++(U G x.slot::U G x.age::hV (l.drop i)):=by unfold eS0;rw [sG0];rfl
theorem nE1 (x:Ly) (l:List Ly):eS0 l.length x l=l++[x]:=by simp [eS0]
theorem qV0 (i:Nat) (l:List Ly):hV l=hV (l.take i)++hV (l.drop i):=by rw [<-sG0,dE]
theorem zY1 {i:Nat} {l:List Ly} (h:i<=l.length):(hV l).take (i*2)=hV (l.take i):=by
 rw [qV0 i l,dP (by rw [fZ0,bF];omega),cO (by rw [fZ0,bF];omega)]
def pE0 (w W':World) (ob:Option Nat) (v':Value) (l':List Ly):Prop:=
 ∃g cap,v'=J (some ⟨g,0,none⟩) l'.length cap/\W'.ownsRow 0 240 2 v' l'.length (hV l')/\Out (fun k=>ob=some k) w W'/\(ob=some g\/w.heap.size<=g)
theorem jK1 (r:Nat) (v:Value) (l:List Ly) (x:Ly) (w:World) (m:w.ownsRow 0 240 2 v l.length (hV l)) (D:l.length<=1000) (n:bJ0 w r #[U G x.slot,U G x.age] 240):
  Calls prog 275 #[v,U G l.length,J (some ⟨r,0,none⟩) 1 1] w fun e y=>∃v',e=Y v'/\pE0 w y v.ownBlock v' (l++[x]):=by
 obtain ⟨C,hi,o,p,q⟩:=info_parts infoH;obtain ⟨s,d,rfl,f,A⟩:=bC0 m;have u:=hid7 m;obtain ⟨ob,b⟩:∃ob,(Value.slice s l.length d).ownBlock=ob:=⟨_,rfl⟩;rw [b];have c:=hid7 b;clear m b;have E:(0:Int)<=(l.length:Int):=o7;have F:=f;go_enter func275,ntmps275;go_wp2_with (at_builtin;refine wpList_append_lies _ rfl _ _ 230 rfl 0 240 C (.agg #[U G 0,U G 0]) 2 16 underlying230 hi o p q rfl d7 (J s l.length d) l.length (hV l) rfl u.out ⟨r,0,none⟩ 1 1 [U G x.slot,U G x.age] rfl rfl (bJ (cs:=#[U G x.slot,U G x.age]) (t:=240) (fr:=(0,0)) n) (by simp [Value.oneCell']) d7 (by unfold maxLen;omega) o7 (aO _) w.heap.size rfl ?_;intro g z w1 i a j B)
 all_goals go_ret
 all_goals refine ⟨_,rfl,g,z,by rw [aN];rfl,?_,dJ a (fun k hk=>c.out ▸ hk),(c.out ▸ j).imp id (fun e=>by omega)⟩
 all_goals rw [aN,List.length_singleton,sG0]
 all_goals exact i
theorem tP1 {A B C:List Value} (a b:Value) (f:2<=C.length):
  (((A++(B++C)).take (A.length+2)++B++(A++(B++C)).drop (A.length+2+B.length)).take A.length++[a,b]++((A++(B++C)).take (A.length+2)++B++(A++(B++C)).drop (A.length+2+B.length)).drop (A.length+2))=A++(a::b::(B++C.drop 2)):=by
 have c:(A++(B++C)).take (A.length+2)=A++(B++C).take 2:=by
  rw [gO,cO o7]
  congr 2;omega
 have d:(A++(B++C)).drop (A.length+2+B.length)=C.drop 2:=by
  rw [fD,dX o7,bX,fD,dX o7,bX]
  congr 1;omega
 have e:((B++C).take 2).length=2:=by simp;omega
 rw [c,d];generalize (B++C).take 2=T at e;simp only [dG];rw [gW,fD,dX o7,bX]
 ·rw [show A.length+2 - A.length=T.length by omega,List.drop_left];rfl
 ·rfl
theorem dR1 (v g a i:Nat) (l:List Ly) (x:Ly) (w:World) (X:w.ownsRow 0 240 2 (.slice (some ⟨g,0,none⟩) l.length a) l.length (hV l)) (hl:l.length<=1000) (hi:i<l.length) (V:l.length+1<=a)
  (m:bJ0 w v #[U G x.slot,U G x.age] 240) (E:v≠g):
  Calls prog 275 #[J (some ⟨g,0,none⟩) l.length a,U G i,J (some ⟨v,0,none⟩) 1 1] w fun e W'=>∃v',e=Y v'/\pE0 w W' (some g) v' (eS0 i x l):=by
 rcases X.2 with ⟨K,_⟩ | ⟨g',W,b,K,_,M,a0,Q,k,Z⟩
 ·simp at K
 simp only [aY,Option.some.injEq,Addr.mk.injEq,and_true,true_and] at K;obtain ⟨rfl,rfl⟩:=K;clear X;unfold maxLen at Q
 have hcut:b.toList=hV (l.take i)++(hV (l.drop i)++b.toList.drop (l.length*2)):=by
  rw [<-dG,<-qV0,<-Z,dE]
 have L:(hV (l.take i)).length=i*2:=by rw [fZ0,bF];omega
 have f:(hV (l.drop i)).length=(l.length - i)*2:=by rw [fZ0,dC]
 have O:(b.toList.drop (l.length*2)).length=(a - l.length)*2:=by rw [dC,Array.length_toList,k];omega
 have H:w.shape? v=some (240,2):=by simp [World.shape?,m]
 have I:w.shape? g=some (240,a*2):=by simp [World.shape?,M,k]
 have R:∀lb N,(callFunc 291 #[J (some ⟨v,0,none⟩) 1 1,J (some ⟨g,(i+1)*2,none⟩) lb N]).run prog w=.ok (.value (.bool false)) w:=fun lb N=>by
  rw [run_callFunc_extern func291 k7 k7 k7 (e:=Extern.SlicesOverlaps.overlaps #[230,230] #[4]) k7,
   Lib.run_overlaps_apart w 230 4 240 underlying230 2 sizeOfH ⟨v,0,none⟩ ⟨g,(i+1)*2,none⟩ 1 1 lb N E 240 240 2 (a*2) H I o7 (aB0 m) (aB0 m)]
  rfl
 have o:∀j u,(hV (l.drop i))[j]? = some u->w.drew.cell? ((⟨g,i*2,none⟩:Addr).add j)=some u:=fun j u y=>by
  rw [Addr.add_lit];refine aA0 (w:=w) M ?_;rw [<-Array.getElem?_toList,hcut,List.getElem?_append_right o7,L,show i*2+j - i*2=j by omega,List.getElem?_append_left (by have:=(List.getElem?_eq_some_iff.1 y).1;omega)];exact y
 obtain ⟨W1,S,r,s⟩:=jK0 (P:=prog) w.drew 230 230 3 240 g ((i+1)*2) (l.length+1 - (i+1)) (a - (i+1)) ⟨g,i*2,none⟩ (l.length+1 - i) (a - i) b 240 (hV (l.drop i)) (l.length - i)
  underlying230 sizeH M (by simp only [gZ];split <;> omega) f o (by rw [f,k];omega) (xX1 _)
 have p:=aF0 (w:=w.drew) m s E;generalize c:(b.toList.take ((i+1)*2)++hV (l.drop i)++b.toList.drop ((i+1)*2+(hV (l.drop i)).length)).toArray=cur1 at r
 have q:cur1.size=a*2:=by
  rw [<-c];simp [f];omega
 obtain ⟨W2,T,D,F⟩:=jK0 (P:=prog) W1 230 230 3 240 g (i*2) (l.length+1 - i) (a - i) ⟨v,0,none⟩ 1 1 cur1 240 [U G x.slot,U G x.age] 1
  underlying230 sizeH r (by simp only [gZ];split <;> omega) rfl (bJ (cs:=#[U G x.slot,U G x.age]) (t:=240) (fr:=(0,0)) p) (by rw [q];simp;omega) (by simp [Value.oneCell'])
 have z:Hid (pE0 w W2 (some g) (J (some ⟨g,0,none⟩) (l.length+1) a) (eS0 i x l)):=by
  have d:=qE0 x (eU hi);refine ⟨g,a,by rw [d],⟨by rw [fZ0],aG ⟨g,a,_,by rw [d],aO _,D,o7,by unfold maxLen;omega,?_,?_⟩⟩,?_,aH rfl⟩
  ·simp [q];omega
  ·have n:=tP1 (A:=hV (l.take i)) (B:=hV (l.drop i)) (C:=b.toList.drop (l.length*2)) (U G x.slot) (U G x.age) o7;rw [<-hcut,L,show i*2+2=(i+1)*2 by omega,show b.toList.take ((i+1)*2)++hV (l.drop i)++b.toList.drop ((i+1)*2+(hV (l.drop i)).length)=cur1.toList by rw [<-c]] at n;rw [show i*2 + [Value.int .i64 x.slot,Value.int .i64 x.age].length=(i+1)*2 by simp;omega];dsimp only;rw [n,gE1,d,gO,cO o7,L,show (l.length+1)*2 - i*2=(hV (l.drop i)).length+1+1 by omega,dY,dY,gD]
  ·exact (aL (aF w.heap.size w).drew lR7).trans ((s.mono (fun j y=>by rw [y])).trans (F.mono (fun j y=>by rw [y])) (aJ _ _)) (aJ _ _)
 clear r D s F o hcut L f O H I c q p M k Z;have q0:IntKind.i64.wrap ((i:Int)+1)=(i:Int)+1:=IntWalk.i64_in _ o7;have q1:(0:Int)<=(i:Int)+1:=o7;have q2:i<=l.length:=o7;have q3:((i:Int)+1).toNat=i+1:=o7;have q4:¬(a=i+1):=o7;have q5:(i:Int)<=(l.length:Int)+1:=o7;have q6:¬(a=i):=o7;have q7:((i:Int) == (l.length:Int))=false:=aC.2 o7;go_enter func275,ntmps275;go_wp2_with (simp only [R]);go_region_law (refine step_copy_runI rfl _ _ 230 230 rfl _ _ (by simp [Act.eval,Act.put]) (by simp [Act.eval,Act.put]) S ?_);go_wp2_with (at_builtin;refine wpList_copy_runI _ rfl _ _ 230 230 rfl _ _ rfl rfl T ?_);go_ret;exact ⟨_,rfl,z⟩
theorem gF1 (n:Nat):(Builtin.zeroCells (Value.agg #[U G 0,U G 0]).cells n).toList.length=n*2:=by
 simp [Builtin.zeroCells,Value.cells]
theorem tQ1 {A B Z:List Value} (a b:Value):
  (((A++Z).take A.length++[a,b]++(A++Z).drop (A.length+2)).take (A.length+2)++B++((A++Z).take A.length++[a,b]++(A++Z).drop (A.length+2)).drop (A.length+2+B.length))=A++(a::b::(B++Z.drop (2+B.length))):=by
 have c:(A++Z).take A.length++[a,b]++(A++Z).drop (A.length+2)=A++[a,b]++Z.drop 2:=by
  rw [gD,fD,dX o7,bX]
  congr 2;omega
 rw [c,gW s7,fD,dX s7,bX,List.drop_drop];simp
theorem dS1 (vb g n i:Nat) (l:List Ly) (x:Ly) (w:World) (hr:w.ownsRow 0 240 2 (.slice (some ⟨g,0,none⟩) l.length n) l.length (hV l)) (hl:l.length<=1000) (hi:i<l.length) (a5:n<l.length+1)
  (T:bJ0 w vb #[.int .i64 x.slot,.int .i64 x.age] 240):
  Calls prog 275 #[.slice (some ⟨g,0,none⟩) l.length n,.int .i64 i,.slice (some ⟨vb,0,none⟩) 1 1] w fun e W'=>∃v',e=.returned v'/\pE0 w W' (some g) v' (eS0 i x l):=by
 obtain ⟨i0,a2,a6,V,U⟩:=info_parts infoH;rcases hr.2 with ⟨W,_⟩ | ⟨g',a7,s,W,_,X,a9,a8,M,ht⟩
 ·simp at W
 simp only [aY,Option.some.injEq,Addr.mk.injEq,and_true,true_and] at W;obtain ⟨rfl,rfl⟩:=W;clear hr;obtain rfl:n=l.length:=by omega
 have hcut:s.toList=hV l:=by
  rw [<-ht,cO (by rw [Array.length_toList,M];omega)]
 have y:(hV (l.take i)).length=i*2:=by rw [fZ0,bF];omega
 have o:(hV (l.drop i)).length=(l.length - i)*2:=by rw [fZ0,dC]
 have q:(Builtin.firstCells i0.size i (.slice (some ⟨g,0,none⟩) i l.length)).run prog w.drew=.ok (hV (l.take i)).toArray w.drew:=by
  rw [V]
  exact run_firstCells_some w.drew 2 i ⟨g,0,none⟩ i l.length (hV (l.take i)) y (fun j v Y=>by
   rw [Addr.add_lit];refine aA0 (w:=w) X ?_;rw [<-Array.getElem?_toList,hcut,qV0 i l,bT,List.getElem?_append_left (List.getElem?_eq_some_iff.1 Y).1];exact Y)
 have R:(l.length:Int)+1 - (i:Int)=((l.length+1 - i:Nat):Int):=by omega
 have F:i+(l.length+1 - i)=l.length+1:=by omega
 have m:=Lib.run_append_grow_zeros w 230 3 230 240 i0 _ .i64 .i64 underlying230 underlying3 a2 a6 (some ⟨g,0,none⟩) i l.length (hV (l.take i)) q (l.length+1 - i) (by omega) (by rw [V];decide) (by omega) (by omega) (by rw [U];omega) (by rw [U,F];exact growslice_fits (by omega) (by omega));rw [F,<-R] at m;have a0:=grownCap_ge w (l.length+1) l.length 240;have K:=grownCap_le_maxLen w (l.length+1) l.length 240 (by unfold maxLen;omega);generalize grownCap w (l.length+1) l.length 240=G at m a0 K;generalize a:(hV (l.take i)).toArray++Builtin.zeroCells (Value.agg #[.int .i64 0,.int .i64 0]).cells (l.length+1 - i)++Builtin.zeroCells (Value.agg #[.int .i64 0,.int .i64 0]).cells (G - (l.length+1))=ROW at m
 have a1:∃Z:List Value,ROW.toList=hV (l.take i)++Z/\Z.length=(G - i)*2:=by
  refine ⟨(Builtin.zeroCells (Value.agg #[.int .i64 0,.int .i64 0]).cells (l.length+1 - i)).toList++(Builtin.zeroCells (Value.agg #[.int .i64 0,.int .i64 0]).cells (G - (l.length+1))).toList,?_,?_⟩
  ·rw [<-a];simp
  ·rw [aN,gF1,gF1];omega
 obtain ⟨Z,p,z⟩:=a1
 have L:ROW.size=G*2:=by
  rw [<-Array.length_toList,p,aN,y,z];omega
 clear a q;have E:bJ0 (w.drew.alloc (.cells ROW 240)) w.heap.size ROW 240:=heap_alloc_new w.drew _;have d:aL0 w (w.drew.alloc (.cells ROW 240)):=(aF w.heap.size w).drew.alloc lR7 _;generalize w.drew.alloc (.cells ROW 240)=WN at m E d;have b0:=lt_of_block T;have lg:=lt_of_block X
 obtain ⟨I,a3,D,H⟩:=jK0 (P:=prog) WN 230 230 3 240 w.heap.size (i*2) (l.length+1 - i) (G - i) ⟨vb,0,none⟩ 1 1 ROW 240 [.int .i64 x.slot,.int .i64 x.age] 1
  underlying230 sizeH E (by simp only [gZ];split <;> omega) rfl (bJ (cs:=#[.int .i64 x.slot,.int .i64 x.age]) (t:=240) (fr:=(0,0)) (aE0 T d lR7)) (by rw [L];simp only [aZ,cU];omega) (by simp [Value.oneCell'])
 generalize c:(ROW.toList.take (i*2)++[Value.int .i64 x.slot,Value.int .i64 x.age]++ROW.toList.drop (i*2 + [Value.int .i64 x.slot,Value.int .i64 x.age].length)).toArray=cur1 at D
 have C:cur1.size=G*2:=by
  rw [<-c];simp only [List.size_toArray,aN,bF,dC,p,y,z,aZ,cU];omega
 have Q:bJ0 I g s 240:=aF0 (w:=WN) (b:=g) (aE0 X d lR7) H (fun e=>by have e':g=w.heap.size:=e;omega);have N:bJ0 I.drew g s 240:=Q
 have r:∀j u,(hV (l.drop i))[j]? = some u->I.drew.cell? ((⟨g,i*2,none⟩:Addr).add j)=some u:=fun j u Y=>by
  rw [Addr.add_lit];refine aA0 N ?_;rw [<-Array.getElem?_toList,hcut,qV0 i l,List.getElem?_append_right (by omega),y,show i*2+j - i*2=j by omega];exact Y
 obtain ⟨W2,a4,O,S⟩:=jK0 (P:=prog) I.drew 230 230 3 240 w.heap.size ((i+1)*2) (l.length+1 - (i+1)) (G - (i+1)) ⟨g,i*2,none⟩ (l.length - i) (l.length - i) cur1 240 (hV (l.drop i)) (l.length - i)
  underlying230 sizeH D (by simp only [gZ];split <;> omega) o r (by rw [o,C];omega) (xX1 _)
 have J:Hid (pE0 w W2 (some g) (.slice (some ⟨w.heap.size,0,none⟩) (l.length+1) G) (eS0 i x l)):=by
  have f:=qE0 x (eU hi);refine ⟨w.heap.size,G,by rw [f],⟨by rw [fZ0],aG ⟨w.heap.size,G,_,by rw [f],aO _,O,by omega,K,?_,?_⟩⟩,?_,aG lR7⟩
  ·simp [C,o];omega
  ·have a:=tQ1 (A:=hV (l.take i)) (B:=hV (l.drop i)) (Z:=Z) (.int .i64 x.slot) (.int .i64 x.age);rw [<-p,y,show i*2+2=(i+1)*2 by omega,show ROW.toList.take (i*2)++[Value.int .i64 x.slot,Value.int .i64 x.age]++ROW.toList.drop ((i+1)*2)=cur1.toList by rw [<-c];simp;omega] at a;dsimp only;rw [a,gE1,f,gO,cO (by omega),y,show (l.length+1)*2 - i*2=(hV (l.drop i)).length+1+1 by omega,dY,dY,gD]
  ·have o1:Out (fun k=>k=w.heap.size) WN W2:=H.trans ((aL (aF I.heap.size I).drew lR7).trans S (aJ _ _)) (aJ _ _);exact (aL d lR7).trans o1 (fun k hk=>aG (by omega))
 clear D O H S r hcut y o c C X M ht N Q E d p z L R F;have q0:IntKind.i64.wrap ((i:Int)+1)=(i:Int)+1:=IntWalk.i64_in _ (by omega);have q1:(0:Int)<=(i:Int)+1:=by omega
 have q2:i<=l.length:=by omega
 have q3:((i:Int)+1).toNat=i+1:=by omega
 have q4:¬(G=i+1):=by omega
 have q5:(i:Int)<=(l.length:Int):=by omega
 have q6:¬(G=i):=by omega
 have q7:((i:Int) == (l.length:Int))=false:=aC.2 (by omega);have q8:¬(l.length=i):=by omega
 go_enter func275,ntmps275
 go_wp2_with (first
  | (at_builtin;refine Lib.wpList_append_run _ rfl _ _ _ _ rfl _ _ rfl rfl _ _ m ?_)
  | (at_builtin;refine wpList_copy_runI _ rfl _ _ 230 230 rfl _ _ rfl rfl a3 ?_))
 go_region_law (refine step_copy_runI rfl _ _ 230 230 rfl _ _ (by simp [Act.eval,Act.put]) (by simp [Act.eval,Act.put]) a4 ?_);go_wp2;go_ret;exact ⟨_,rfl,J⟩
theorem jL1 (c i:Nat) (v:Value) (l:List Ly) (x:Ly) (w:World) (d:w.ownsRow 0 240 2 v l.length (hV l)) (f:l.length<=1000) (hi:i<=l.length)
  (b:bJ0 w c #[U G x.slot,U G x.age] 240) (j:v.ownBlock≠some c):
  Calls prog 275 #[v,U G i,J (some ⟨c,0,none⟩) 1 1] w fun e k=>∃v',e=Y v'/\pE0 w k v.ownBlock v' (eS0 i x l):=by
 by_cases m:i=l.length
 ·subst m;rw [nE1];exact jK1 c v l x w d f b
 ·obtain ⟨g,a,rfl,_,_⟩:=d.form o7;have o:c≠g:=fun e=>j (by rw [e];rfl)
  by_cases n:l.length+1<=a
  ·exact dR1 c g a i l x w d f o7 n b o
  ·exact dS1 c g a i l x w d f o7 o7 b
end
end Go.Proofs.YtaelphbianmckaaGreatDoor
namespace Go.Proofs.YtaelphbianmckaaGreatDoor
section
open Go.RowKit
structure BkS where
 ab:Nat
 mb:Nat
 n:Nat
 vs:Value
 vf:Value
 v0:Value
 v1:Value
 rs:List Sot
 fr:List Nat
 S:Nat->List Ly
def BkAt (w:World) (bb:Nat) (b:BkS):Prop:=BookAt w bb b.ab b.mb b.n b.vs b.vf b.v0 b.v1 b.rs b.fr b.S
def BkS.foot (bb:Nat) (b:BkS):Nat->Prop:=pbB bb b.ab b.mb b.vs b.vf b.v0 b.v1
structure Bk (w:World) (bb m:Nat) (b:BkS):Prop where
 at_:BkAt w bb b
 ok:Pb m b.rs b.fr b.S
 small:b.n<=m
 steps:m<=900000
theorem Bk.below {w w':World} {a m B:Nat} {b:BkS} (h:Bk w a m b) (d:Below B w w') (c:w.heap.size<=B):Bk w' a m b:=⟨BookAt.below h.at_ d c,h.ok,h.small,h.steps⟩
theorem Bk.out {T:Nat->Prop} {w w':World} {a m:Nat} {b:BkS} (h:Bk w a m b) (d:Out T w w') (c:∀k,b.foot a k->¬T k):Bk w' a m b:=⟨BookAt.out h.at_ d c,h.ok,h.small,h.steps⟩
theorem Bk.more {w:World} {a m m':Nat} {b:BkS} (h:Bk w a m b) (c:m<=m') (d:m'<=900000):Bk w a m' b:=⟨h.at_,h.ok.more c,aI h.small c,d⟩
theorem Bk.lt {w:World} {a m:Nat} {b:BkS} (h:Bk w a m b) {k:Nat} (hk:b.foot a k):k<w.heap.size:=BookAt.lt h.at_ hk
def Goes (w w':World) (bb m:Nat) (b b':BkS):Prop:=Bk w' bb m b'/\Out (b.foot bb) w w'/\Went w (b.foot bb) (b'.foot bb)
theorem Goes.stay {w w':World} {a m m':Nat} {b:BkS} (h:Bk w a m b) (c:Below w.heap.size w w') (d:m<=m') (e:m'<=900000):Goes w w' a m' b b:=⟨(h.below c lR7).more d e,aL c lR7,aJ _ _⟩
def BkS.none_ (k:Nat):BkS:=⟨k,k+1,0,J none 0 0,J none 0 0,J none 0 0,J none 0 0,[],[],fun _=>[]⟩
theorem eI2 (w:World):Calls prog 114 #[] w fun e W'=>e=Y (E (some ⟨w.heap.size+2,0,none⟩))/\Bk W' (w.heap.size+2) 0 (BkS.none_ w.heap.size)/\Below w.heap.size w W':=by
 have m:=@run_makeMap prog;go_enter func114,ntmps114;go_wp2_with fail;refine (hC2 _).mono ?_;rintro e w1 ⟨rfl,rfl⟩;go_wp2;go_ret;have j:=sX1 w 100;have d:=bel1 w (R #[U G 100,J none 0 0,J none 0 0] 297);have f:(w.alloc (R #[U G 100,J none 0 0,J none 0 0] 297)).heap.size=w.heap.size+1:=by simp
 generalize w.alloc (R #[U G 100,J none 0 0,J none 0 0] 297)=w1 at j d f ⊢
 have i:gH0 (w1.alloc (.map #[] 0)) (w.heap.size+1) 0 (fun _=>[]):=by
  have:=World.ownsMap_made (H:=Unit) w1 prog 3 plR;rw [f] at this;exact ⟨_,this,(fun _ _ x g=>(by cases g)),fun _ _=>rfl⟩
 have a:=bel1 w1 (.map #[] 0);have c:(w1.alloc (.map #[] 0)).heap.size=w.heap.size+2:=by simp;omega
 have l:=j.below a lR7;generalize w1.alloc (.map #[] 0)=w2 at i a c l ⊢;have g:=heap_alloc_new w2 (R #[E (some ⟨w.heap.size,0,none⟩),.map (some (w.heap.size+1)),J none 0 0,J none 0 0] 233);have b:=bel1 w2 (R #[E (some ⟨w.heap.size,0,none⟩),.map (some (w.heap.size+1)),J none 0 0,J none 0 0] 233);refine ⟨by rw [<-c];rfl,?_,?_⟩
 ·refine ⟨⟨by rw [c] at g;exact g,l.below b lR7,i.same (b.block _ i.lt),aU _ _ _ _,aU _ _ _ _,fun k hk=>by cases hk⟩,Pb.start 0,lR7,d7⟩
 ·exact aD0 (aD0 d a) b
theorem dT1 (w:World) {k:Nat} (h:(BkS.none_ w.heap.size).foot (w.heap.size+2) k):w.heap.size<=k:=by
 rcases h with rfl | (rfl | h | h) | rfl | h | h
 ·omega
 ·exact lR7
 ·cases h
 ·cases h
 ·exact cH _
 ·cases h
 ·cases h
theorem eJ2 (a m:Nat) (b:BkS) (w:World) (h:Bk w a m b):Calls prog 237 #[E (some ⟨a,0,none⟩)] w fun e W'=>e=Y (U G ((b.S 0).length+(b.S 1).length:Nat))/\Below w.heap.size w W':=by
 have c:w.cell? ⟨a,0,none⟩=some (E (some ⟨b.ab,0,none⟩)):=aA0 (j:=0) h.at_.box rfl;have H:=hid7 h;clear h;go_enter func237,ntmps237;go_wp2_with fail;refine (mH1 b.ab 100 b.vs b.vf b.rs b.fr _ _ H.out.at_.ar (by have:=H.out.ok.so.small;have:=H.out.steps;omega) rfl H.out.ok.so.cnt).mono ?_;rintro e w1 ⟨rfl,n,rfl⟩;go_wp2;go_ret;exact ⟨by rw [<-H.out.ok.cnt];rfl,below_drewN (aF _ _) n⟩
structure BookG (w:World) (bb ab mb n:Nat) (vs vf v0 v1:Value) (rs:List Sot) (fr:List Nat) (Sm Sr:Nat->List Ly):Prop where
 box:w.heap[bb]? = some (R #[E (some ⟨ab,0,none⟩),.map (some mb),v0,v1] 233 (0,0))
 ar:ArOr w ab 100 vs vf rs fr
 map:gH0 w mb n Sm
 row0:w.ownsRow 0 240 2 v0 (Sr 0).length (hV (Sr 0))
 row1:w.ownsRow 0 240 2 v1 (Sr 1).length (hV (Sr 1))
 apart:∀k,v0.ownBlock=some k->v1.ownBlock≠some k
section
variable {w w' w1:World} {bb ab mb n s g cap:Nat} {vs vf v0 v1:Value} {rs:List Sot} {fr:List Nat} {S Sm Sr:Nat->List Ly}
theorem BookAt.mid (h:BookAt w bb ab mb n vs vf v0 v1 rs fr S):BookG w bb ab mb n vs vf v0 v1 rs fr S S:=⟨h.box,h.ar,h.map,h.row0,h.row1,h.apart⟩
theorem BookG.done (h:BookG w bb ab mb n vs vf v0 v1 rs fr S S):BookAt w bb ab mb n vs vf v0 v1 rs fr S:=⟨h.box,h.ar,h.map,h.row0,h.row1,h.apart⟩
theorem BookG.out {T:Nat->Prop} (h:BookG w bb ab mb n vs vf v0 v1 rs fr Sm Sr) (b:Out T w w') (a:∀k,pbB bb ab mb vs vf v0 v1 k->¬T k):BookG w' bb ab mb n vs vf v0 v1 rs fr Sm Sr:=
 ⟨aF0 h.box b (a bb (aH rfl)),h.ar.out b (fun k hk=>a k (aG (aH hk))),h.map.same (b.block mb h.map.lt (a mb (aG (aG (aH rfl))))),
  aK0 h.row0 b (fun k hk=>a k (aG (aG (aG (aH hk))))),aK0 h.row1 b (fun k hk=>a k (aG (aG (aG (aG hk))))),h.apart⟩
theorem BookG.rowIs (h:BookG w bb ab mb n vs vf v0 v1 rs fr Sm Sr) (a:s<2):w.ownsRow 0 240 2 (vAt v0 v1 s) (Sr s).length (hV (Sr s))/\w.cell? ⟨bb,2+s,none⟩=some (vAt v0 v1 s)/\w.frozen? ⟨bb,2+s,none⟩=false:=by
 match s,a with
 | 0,_=>exact ⟨h.row0,aA0 (j:=2) h.box rfl,aB0 h.box⟩
 | 1,_=>exact ⟨h.row1,aA0 (j:=3) h.box rfl,aB0 h.box⟩
theorem BookG.rowNotBox (h:BookG w bb ab mb n vs vf v0 v1 rs fr Sm Sr) (a:s<2):(vAt v0 v1 s).ownBlock≠some bb:=aH0 (h.rowIs a).1 h.box d7
theorem BookG.rowNotMap (h:BookG w bb ab mb n vs vf v0 v1 rs fr Sm Sr) (a:s<2):(vAt v0 v1 s).ownBlock≠some mb:=dN0 (h.rowIs a).1 h.map
theorem BookG.rowNotAr (h:BookG w bb ab mb n vs vf v0 v1 rs fr Sm Sr) (a:s<2) {k:Nat} (hk:(vAt v0 v1 s).ownBlock=some k):¬aoB ab vs vf k:=fun e=>by
 rcases e with e | e | e
 ·exact aH0 (h.rowIs a).1 (e ▸ h.ar.box) d7 hk
 ·exact bP0 (h.rowIs a).1 h.ar.slots d7 hk e
 ·exact bP0 (h.rowIs a).1 h.ar.free d7 hk e
theorem BookG.newMap {c:Nat} {a:Nat->List Ly} (h:BookG w bb ab mb n vs vf v0 v1 rs fr Sm Sr) (b:Out (fun j=>j=mb) w w') (f:gH0 w' mb c a):BookG w' bb ab mb c vs vf v0 v1 rs fr a Sr:=
 ⟨aF0 h.box b (h.map.ne h.box),h.ar.out b (fun k hk e=>by
   have d:k=mb:=e;subst d;rcases hk with e | e | e
   ·exact h.map.ne h.ar.box e.symm
   ·exact dN0 h.ar.slots h.map e
   ·exact dN0 h.ar.free h.map e),f,aK0 h.row0 b (fun k hk e=>dN0 h.row0 h.map (by rw [<-show k=mb from e];exact hk)),aK0 h.row1 b (fun k hk e=>dN0 h.row1 h.map (by rw [<-show k=mb from e];exact hk)),h.apart⟩
theorem BookG.newAr {d c:Value} {b:List Sot} {a:List Nat} (h:BookG w bb ab mb n vs vf v0 v1 rs fr Sm Sr) (f:Out (aoB ab vs vf) w w') (g:ArOr w' ab 100 d c b a):BookG w' bb ab mb n d c v0 v1 b a Sm Sr:=
 ⟨aF0 h.box f (fun e=>by
   rcases e with e | e | e
   ·exact dQ0 h.box h.ar.box d7 e
   ·exact aH0 h.ar.slots h.box d7 e
   ·exact aH0 h.ar.free h.box d7 e),g,h.map.same (f.block mb h.map.lt (fun e=>by
   rcases e with e | e | e
   ·exact h.map.ne h.ar.box e.symm
   ·exact dN0 h.ar.slots h.map e
   ·exact dN0 h.ar.free h.map e)),aK0 h.row0 f (fun _ hk=>h.rowNotAr (s:=0) d7 hk),aK0 h.row1 f (fun _ hk=>h.rowNotAr (s:=1) d7 hk),h.apart⟩
def rowV (v v':Value) (s t:Nat):Value:=if s=t then v' else v
theorem BookG.newRow {l':List Ly} (h:BookG w bb ab mb n vs vf v0 v1 rs fr Sm Sr) (r:s<2) (v:w1.ownsRow 0 240 2 (J (some ⟨g,0,none⟩) l'.length cap) l'.length (hV l'))
  (l:Out (fun k=>(vAt v0 v1 s).ownBlock=some k) w w1) (d:(vAt v0 v1 s).ownBlock=some g\/w.heap.size<=g):
  BookG (w1.setCell ⟨bb,2+s,none⟩ (J (some ⟨g,0,none⟩) l'.length cap)) bb ab mb n vs vf (rowV v0 (J (some ⟨g,0,none⟩) l'.length cap) s 0) (rowV v1 (J (some ⟨g,0,none⟩) l'.length cap) s 1) rs fr Sm (upS Sr s l')
  /\Out (fun k=>k=bb\/(vAt v0 v1 s).ownBlock=some k) w (w1.setCell ⟨bb,2+s,none⟩ (J (some ⟨g,0,none⟩) l'.length cap)):=by
 have a:=aF0 h.box l (h.rowNotBox r);have m:=aM0 w1 ⟨bb,2+s,none⟩ (J (some ⟨g,0,none⟩) l'.length cap);have b:=h.ar.out l (fun k hk e=>h.rowNotAr r e hk);have i:=h.map.same (l.block mb h.map.lt (h.rowNotMap r))
 have c:=b.out m (fun k hk e=>by
  have o:k=bb:=e;subst o;rcases hk with e | e | e
  ·exact dQ0 a b.box d7 e
  ·exact aH0 b.slots a d7 e
  ·exact aH0 b.free a d7 e)
 have f:=i.same (m.block mb i.lt (fun e=>i.ne a (show mb=bb from e).symm));have p:(w1.setCell ⟨bb,2+s,none⟩ (J (some ⟨g,0,none⟩) l'.length cap)).ownsRow 0 240 2 (J (some ⟨g,0,none⟩) l'.length cap) l'.length (hV l'):=aK0 v m (fun k hk e=>aH0 v a d7 (by rw [<-show k=bb from e];exact hk));refine ⟨?_,(l.mono (fun k hk=>aG hk)).trans (m.mono (fun k hk=>aH hk)) (aJ _ _)⟩
 match s,r with
 | 0,_=>
  have q:w1.ownsRow 0 240 2 v1 (Sr 1).length (hV (Sr 1)):=aK0 h.row1 l (fun k hk e=>h.apart k e hk);have u:=aK0 q m (fun k hk e=>aH0 q a d7 (by rw [<-show k=bb from e];exact hk));refine ⟨aJ0 (j:=2) _ a,c,f,p,u,fun k hk=>?_⟩;have o:g=k:=by simpa [rowV,Value.ownBlock] using hk
  subst o;rcases d with d | d
  ·exact h.apart _ d
  ·exact fun e=>by have:=(h.row1.lt _ e).2;omega
 | 1,_=>
  have q:w1.ownsRow 0 240 2 v0 (Sr 0).length (hV (Sr 0)):=aK0 h.row0 l (fun k hk e=>h.apart k hk e);have u:=aK0 q m (fun k hk e=>aH0 q a d7 (by rw [<-show k=bb from e];exact hk));refine ⟨aJ0 (j:=3) _ a,c,f,u,p,fun k hk=>?_⟩;intro t;have o:g=k:=by simpa [rowV,Value.ownBlock] using t
  subst o;rcases d with d | d
  ·exact h.apart _ hk d
  ·have:=(h.row0.lt _ hk).2;omega
theorem zV0 {v':Value} (b:s<2) (a:∀k,v'.ownBlock=some k->(vAt v0 v1 s).ownBlock=some k\/w.heap.size<=k):Went w (fun k=>v0.ownBlock=some k\/v1.ownBlock=some k) (fun k=>(rowV v0 v' s 0).ownBlock=some k\/(rowV v1 v' s 1).ownBlock=some k):=by
 match s,b with
 | 0,_=>
  rintro k (hk | hk)
  ·exact (a k hk).imp aH id
  ·exact aH (aG hk)
 | 1,_=>
  rintro k (hk | hk)
  ·exact aH (aH hk)
  ·exact (a k hk).imp aG id
theorem dU1 (a:s<2) {k:Nat} (h:(vAt v0 v1 s).ownBlock=some k):v0.ownBlock=some k\/v1.ownBlock=some k:=by
 match s,a with
 | 0,_=>exact aH h
 | 1,_=>exact aG h
end
theorem nR0 {w:World} {bb s:Nat} {a m v0 v1:Value} {t:TypeId} (h:w.heap[bb]? = some (R #[a,m,v0,v1] t (0,0))) (b:s<2):w.cell? ⟨bb,2+s,none⟩=some (vAt v0 v1 s)/\w.frozen? ⟨bb,2+s,none⟩=false:=by
 match s,b with
 | 0,_=>exact ⟨aA0 (j:=2) h rfl,aB0 h⟩
 | 1,_=>exact ⟨aA0 (j:=3) h rfl,aB0 h⟩
theorem nF1 (bb ab mb j s:Nat) (vs vf v0 v1:Value) (rs:List Sot) (fr:List Nat) (S:Nat->List Ly) (o:Ord) (b W:World) (i:s<2) (a:(S s).length<=1000)
  (f:∀x∈S s,soAt rs x.slot=(some x.o,x.age)) (d:BookAt b bb ab mb j vs vf v0 v1 rs fr S) (g:Below b.heap.size b W):
  Calls prog 276 #[E (some ⟨bb,0,none⟩),U G s,o.agg] W fun e w1=>e=Y (U G (hV0 o ((S s).map Ly.o)))/\Below W.heap.size W w1/\Below b.heap.size b w1/\w1.cell? ⟨bb,2+s,none⟩=some (vAt v0 v1 s)/\bb<w1.heap.size:=
 (tA1 bb ab mb j s vs vf v0 v1 rs fr S o i a f W (d.below g lR7)).mono fun _ _ ⟨h1,h2⟩=>
  have c:=aD0 g h2
  ⟨h1,h2,c,(nR0 (d.below c lR7).box i).1,lt_of_block (d.below c lR7).box⟩
theorem zW0 (d i bb ab mb v s:Nat) (vs vf v0 v1:Value) (rs:List Sot) (fr:List Nat) (S:Nat->List Ly) (x:Ly) (b W:World) (m:s<2) (c:(S s).length<=1000) (hi:i<=(S s).length)
  (j:BookAt b bb ab mb v vs vf v0 v1 rs fr S) (l:Below b.heap.size b W) (n:W.heap[d]? = some (R #[U G x.slot,U G x.age] 240 (0,0))) (u:b.heap.size<=d):
  Calls prog 275 #[vAt v0 v1 s,U G i,J (some ⟨d,0,none⟩) 1 1] W fun e w1=>∃g cap,e=Y (J (some ⟨g,0,none⟩) (eS0 i x (S s)).length cap)
   /\w1.ownsRow 0 240 2 (J (some ⟨g,0,none⟩) (eS0 i x (S s)).length cap) (eS0 i x (S s)).length (hV (eS0 i x (S s)))/\Out (fun k=>(vAt v0 v1 s).ownBlock=some k) b w1/\((vAt v0 v1 s).ownBlock=some g\/b.heap.size<=g)
   /\Out (fun k=>k=bb\/(vAt v0 v1 s).ownBlock=some k) b w1/\w1.cell? ⟨bb,2+s,none⟩=some (vAt v0 v1 s)/\w1.frozen? ⟨bb,2+s,none⟩=false:=by
 have a:=(j.mid.rowIs m).1;refine (jL1 d i (vAt v0 v1 s) (S s) x W (aU0 a l lR7) c hi n (fun e=>by have:=(a.lt _ e).2;omega)).mono ?_;rintro e w1 ⟨v',rfl,g,cap,rfl,o,p,q⟩;have f:Out (fun k=>(vAt v0 v1 s).ownBlock=some k) b w1:=(aL l lR7).trans p (aJ _ _);obtain ⟨r,t⟩:=nR0 (aF0 j.box f (j.mid.rowNotBox m)) m;exact ⟨g,cap,rfl,o,f,q.imp id (fun h=>aI l.size h),f.mono (fun k hk=>aG hk),r,t⟩
section
variable {P:Program} {ops:Array Oper} {Q:Exit->Act->World->Prop} {md:Region.Mode} {S:World->Prop} {L:Nat->Bool}
def gC0 (P:Program) (md:Region.Mode) (ops:Array Oper) (Q:Exit->Act->World->Prop) (S:World->Prop) (L:Nat->Bool):Nat->Array Bool->Act->World->Prop
 | 0,listed,a,w=>Region.ready md ops listed=[]/\Q .normal a w
 | fuel+1,listed,a,w=>(Region.ready md ops listed=[]->Q .normal a w)/\∀i∈Region.ready md ops listed,wpOp P ops Q i (fun a' w'=>(L i=false->S w')/\gC0 P md ops Q S L fuel (listed.setIfInBounds i true) a' w') a w
theorem nS0:∀(b:Nat) (listed:Array Bool) (a:Act) (w:World),gC0 P md ops Q S L b listed a w->wpAny P md ops Q b listed a w
 | 0,_,_,_,h=>h
 | b+1,_,_,_,h=>⟨h.1,fun i hi=>wpOp_mono (fun c w' d=>nS0 b _ c w' d.2) (h.2 i hi)⟩
def vH0 (md:Region.Mode) (ops:Array Oper):Nat->Nat->Nat->Bool
 | 0,_,_=>false
 | n+1,j,i=>match ops[j]? with
  | some o=>o.after.any fun e=>Region.binds md e&& (e.on == i || vH0 md ops n e.on i)
  | none=>false
theorem vI0 {n j i:Nat} (h:vH0 md ops (n+1) j i=true):∃oj,ops[j]? = some oj/\∃e∈oj.after,Region.binds md e=true/\(e.on=i\/vH0 md ops n e.on i=true):=by
 unfold vH0 at h;cases hj:ops[j]? with
 | none=>rw [hj] at h;cases h
 | some oj=>
  rw [hj] at h;obtain ⟨e,b,a⟩:=Array.any_eq_true'.1 h;simp only [bE,dR,beq_iff_eq] at a;exact ⟨oj,rfl,e,b,a⟩
def Down (md:Region.Mode) (ops:Array Oper) (listed:Array Bool):Prop:=∀(j:Nat) (oj:Oper),ops[j]? = some oj->listed.getD j false=true->∀e∈oj.after,Region.binds md e=true->listed.getD e.on false=true
theorem Down.more {a:Array Bool} {j:Nat} (h:Down md ops a) (l:j∈Region.ready md ops a):Down md ops (a.setIfInBounds j true):=by
 obtain ⟨_,n,d,b⟩:=mem_ready.1 l;intro k m hk i e g f;apply getD_set_true
 by_cases c:j=k
 ·subst c;rw [d] at hk;injection hk with hk;subst hk;exact b e g f
 ·rw [getD_set_ne false c] at i;exact h k m hk i e g f
theorem gG1 {a:Array Bool} {i:Nat} (f:Down md ops a) (hi:a.getD i false=false):∀(n j:Nat),vH0 md ops n j i=true->a.getD j false=false
 | 0,_,h=>by cases h
 | n+1,j,h=>by
  obtain ⟨l,d,e,k,g,b⟩:=vI0 h;cases hc:a.getD j false with
  | false=>rfl
  | true=>
   have c:=f j l d hc e k g;rcases b with b | b
   ·rw [b,hi] at c;cases c
   ·rw [gG1 f hi n _ b] at c;cases c
def xE0 (md:Region.Mode) (ops:Array Oper) (L:Nat->Bool) (i:Nat):Bool:=(dF ops.size).all fun j=>!L j || vH0 md ops 4 j i
theorem gH1 {a:Array Bool} {i j:Nat} (h:xE0 md ops L i=true) (o:Down md ops a) (hi:a.getD i false=false) (q:j∈Region.ready md ops a):L j=false:=by
 obtain ⟨_,s,f,d⟩:=mem_ready.1 q;have k:=(Array.getElem?_eq_some_iff.1 f).1;have l:=List.all_eq_true.1 h j (gG.2 k);cases hL:L j with
 | false=>rfl
 | true=>
  rw [hL] at l;obtain ⟨r,b,e,p,m,c⟩:=vI0 (n:=3) (by simpa using l);rw [f] at b;injection b with b;subst b;have g:=d e p m;rcases c with c | c
  ·rw [c,hi] at g;cases g
  ·rw [gG1 o hi 3 _ c] at g;cases g
def sU0 (md:Region.Mode) (ops:Array Oper) (listed:Array Bool):Bool:=(dF ops.size).all fun j=>!listed.getD j false || (match ops[j]? with | some o=>o.after.all fun e=>!Region.binds md e || listed.getD e.on false | none=>true)
theorem sV0 {listed:Array Bool} (h:sU0 md ops listed=true):Down md ops listed:=fun j k a i e g f=>by
 have b:=(Array.getElem?_eq_some_iff.1 a).1;have c:=List.all_eq_true.1 h j (gG.2 b);simp only [i,a,Bool.not_true,Bool.false_or] at c;have d:=Array.all_eq_true'.1 c e g
 simpa [f] using d
theorem zX0 {i:Nat} {x:Oper} {v:Value} (hi:ops[i]? = some x) (n:∀(j:Nat) (o:Oper) cs b,ops[j]? = some o->o.op≠.select cs b) (R:∀c a w,Q (.panic c) (a.put x.dst v) w->Q (.panic c) a w) (V:xE0 md ops L i=true):
  ∀(f:Nat) (d:Array Bool) (a:Act) (w:World),
   (∀j t,ops[j]? = some t->j≠i->d.getD j true=false->(∀e∈t.after,Region.binds md e=true->e.on≠i)->x.apart ops t=true)->Down md ops d->
   i∈Region.ready md ops d->YieldsIf P ops S x v a->S w->gC0 P md ops Q S L f (d.setIfInBounds i true) (a.put x.dst v) w->gC0 P md ops Q S L (f+1) d a w:=by
 intro f
 induction f with
 | zero=>
  intro d a w _ _ r G A H;refine ⟨fun h=>(by rw [h] at r;cases r),fun j u=>?_⟩
  by_cases g:j=i
  ·subst g;exact G.wpOp hi A ⟨fun _=>A,H⟩
  ·have:=ready_mono u g;rw [H.1] at this;cases this
 | succ f ih=>
  intro d a w l M r G A H;refine ⟨fun h=>(by rw [h] at r;cases r),fun j u=>?_⟩
  by_cases g:j=i
  ·subst g;exact G.wpOp hi A ⟨fun _=>A,H⟩
  obtain ⟨m,t,q,B⟩:=mem_ready.1 u;have s:d.getD i true=false:=(mem_ready.1 r).1
  have E:∀e∈t.after,Region.binds md e=true->e.on≠i:=fun e U T I=>by
   have y:=B e U T;rw [I] at y;rcases eE i d.size with p | p
   ·simp [p] at s y;rw [s] at y;cases y
   ·simp [Array.getElem?_eq_none p] at y
  have z:L j=false:=gH1 V M (by
   rcases eE i d.size with p | p
   ·simpa [p] using s
   ·simp [Array.getElem?_eq_none p]) u
  have O:=wpOp_putIf q (l j t q g m E) (fun cs b=>n i x cs b hi) (fun cs b=>n j t cs b q) R G (H.2 j (ready_mono u g))
  refine wpOp_mono (fun N w' F=>⟨fun _=>F.2.1 z,ih (d.setIfInBounds j true) N w' (fun k W hk J D K=>l k W hk J (by
   by_cases C:j=k
   ·subst C;exact m
   ·rw [getD_set_ne true C] at D;exact D) K) (M.more u) (ready_mono r (Ne.symm g)) F.1 (F.2.1 z) ?_⟩) O
  rw [Array.setIfInBounds_comm _ _ g];exact F.2.2
theorem nA0 {i:Nat} {e:Oper} {v:Value} {d:Nat} {b:Array Bool} {a:Act} {w:World} (hi:ops[i]? = some e) (n:Region.noSelect ops=true) (k:Region.free md ops b i=true) (m:(Region.ready md ops b).contains i=true) (l:xE0 md ops L i=true) (j:sU0 md ops b=true)
  (f:∀c a w,Q (.panic c) (a.put e.dst v) w->Q (.panic c) a w) (o:Region.wanted e (yielded ops a.tmps)=true) (p:∀w,S w->(execOp a.eval e).run P w=.ok (.value v) w) (g:S w)
  (h:gC0 P md ops Q S L d (b.setIfInBounds i true) (a.put e.dst v) w):gC0 P md ops Q S L (d+1) b a w:=
 zX0 hi (Region.noSelect_spec n) f l d b a w (Region.free_spec hi k) (sV0 j) (by simpa using m) (aH ⟨o,p⟩) g h
theorem tkL9 {P:Program} {ops:Array Oper} {Q:Exit->Act->World->Prop} {md:Region.Mode} {S:World->Prop} {L:Nat->Bool} (i:Nat) {oi:Oper} {v:Value} {d:Nat} {b:Array Bool} {a:Act} {w:World} (g:S w) (h:gC0 P md ops Q S L d (b.setIfInBounds i true) (a.put oi.dst v) w) (hi:ops[i]? = some oi:=by exact rfl) (k:∀w,S w->(execOp a.eval oi).run P w=.ok (.value v) w:=by (intro w e;(try dsimp only at e);go_simp;try rfl)) (hk:(Region.noSelect ops&& Region.free md ops b i&& (Region.ready md ops b).contains i&& xE0 md ops L i&& sU0 md ops b)=true:=by kernel_rfl) (f:∀c a w,Q (.panic c) (a.put oi.dst v) w->Q (.panic c) a w:=by exact fun _ _ _ h=>h) (j:Region.wanted oi (yielded ops a.tmps)=true:=by rfl):gC0 P md ops Q S L (d+1) b a w:=by
 simp only [bE] at hk;exact nA0 hi hk.1.1.1.1 hk.1.1.1.2 hk.1.1.2 hk.1.2 hk.2 f j k g h
theorem tkL8 {P:Program} {ops:Array Oper} {Q:Exit->Act->World->Prop} {md:Region.Mode} {S:World->Prop} {L:Nat->Bool} (i:Nat) {oi:Oper} (v:Value) {d:Nat} {b:Array Bool} {a:Act} {w:World} (j:∀w,S w->(execOp a.eval oi).run P w=.ok (.value v) w) (f:S w) (h:gC0 P md ops Q S L d (b.setIfInBounds i true) (a.put oi.dst v) w) (hi:ops[i]? = some oi:=by exact rfl) (hk:(Region.noSelect ops&& Region.free md ops b i&& (Region.ready md ops b).contains i&& xE0 md ops L i&& sU0 md ops b)=true:=by kernel_rfl) (e:∀c a w,Q (.panic c) (a.put oi.dst v) w->Q (.panic c) a w:=by exact fun _ _ _ h=>h) (g:Region.wanted oi (yielded ops a.tmps)=true:=by rfl):gC0 P md ops Q S L (d+1) b a w:=by
 simp only [bE] at hk;exact nA0 hi hk.1.1.1.1 hk.1.1.1.2 hk.1.1.2 hk.1.2 hk.2 e g j f h
theorem tkL7 {i:Nat} {e:Oper} {v:Value} {d:Nat} {b:Array Bool} {a:Act} {w:World} (hi:ops[i]? = some e) (hk:(Region.noSelect ops&& Region.free md ops b i&& (Region.ready md ops b).contains i&& xE0 md ops L i&& sU0 md ops b)=true)
  (f:∀c a w,Q (.panic c) (a.put e.dst v) w->Q (.panic c) a w) (j:Region.wanted e (yielded ops a.tmps)=true) (k:∀w,S w->(execOp a.eval e).run P w=.ok (.value v) w) (g:S w)
  (h:gC0 P md ops Q S L d (b.setIfInBounds i true) (a.put e.dst v) w):gC0 P md ops Q S L (d+1) b a w:=by
 simp only [bE] at hk;exact nA0 hi hk.1.1.1.1 hk.1.1.1.2 hk.1.1.2 hk.1.2 hk.2 f j k g h
def aG0 (P:Program) (md:Region.Mode) (ops:Array Oper) (Q:Exit->Act->World->Prop) (S:World->Prop) (L:Nat->Bool) (fuel:Nat) (listed:Array Bool) (a:Act) (w:World) (rs:List Nat):Prop:=
 ∀i∈rs,wpOp P ops Q i (fun a' w'=>(L i=false->S w')/\gC0 P md ops Q S L fuel (listed.setIfInBounds i true) a' w') a w
theorem aG0.nil {c:Nat} {b:Array Bool} {a:Act} {w:World}:aG0 P md ops Q S L c b a w []:=fun _ h=>by cases h
theorem aG0.cons {c:Nat} {b:Array Bool} {a:Act} {w:World} {i:Nat} {o:Oper} {rs:List Nat} (l:ops[i]? = some o)
  (h:∀d:Act->World->Prop,Shut (∀a w,(L i=false->S w)->((L i=false->S w)->gC0 P md ops Q S L c (b.setIfInBounds i true) a w)->d a w)->if Region.wanted o (yielded ops a.tmps)=true then Oper.wp P o a w d Q else d (a.put o.dst undef) w)
  (m:aG0 P md ops Q S L c b a w rs):aG0 P md ops Q S L c b a w (i::rs):=fun j e=>by
 rcases aR.1 e with rfl | e
 ·exact wpOp_step l (fun d g=>h d (fun a w f k=>g a w ⟨f,k f⟩))
 ·exact m j e
theorem aN0 {rs:List Nat} {c:Nat} {b:Array Bool} {a:Act} {w:World} (e:Region.ready md ops b=rs) (d:rs≠[]) (h:aG0 P md ops Q S L c b a w rs):gC0 P md ops Q S L (c+1) b a w:=
 ⟨fun f=>absurd (e ▸ f) d,e ▸ h⟩
theorem gS0 {b:Array Bool} {a:Act} {w:World} (c:Region.ready md ops b=[]) (h:Q .normal a w):∀fuel,gC0 P md ops Q S L fuel b a w
 | 0=>⟨c,h⟩
 | _+1=>⟨fun _=>h,by rw [c];simp⟩
theorem fE0 {id:Nat} {a:Act} {w:World} (S:World->Prop) (L:Nat->Bool) (c:P.follows .mixedOrders=true) (b:S w.drew) (h:S w.drew->gC0 P .any ops Q S L ops.size (Array.replicate ops.size false) a w.drew):(Code.region id ops true).wp P Q a w:=
 wp_region_any c (nS0 _ _ _ _ (h b))
end
attribute [local go_sem ↓] Go.wp_at_zero Go.wp_at_succ
def lieP (o:Ord):Ord:=if o.kind=2 then { o with price:=1 } else o
theorem nG1 (o:Ord):(lieP o).id=o.id:=by unfold lieP;split <;> rfl
theorem zY0 (o:Ord):(lieP o).side=o.side:=by unfold lieP;split <;> rfl
def nT0 (s:Int):Bool:=s == 1 || s == 2
def nH1 (S:Nat->List Ly) (id:Int):Prop:=∃s,s<2/\∃x∈S s,x.o.id=id
theorem qW0 (S:Nat->List Ly) (id:Int):nH1 S id\/∀s,s<2->∀x∈S s,x.o.id≠id:=by
 by_cases h:nH1 S id
 ·exact aH h
 ·exact aG (fun s a x b e=>h ⟨s,a,x,b,e⟩)
def nI1 (w W':World) (bb m:Nat) (b:BkS) (o:Ord) (e:Ending):Prop:=
 ((nT0 o.side=false\/o.id<1)/\e=Y (.iface 26 (U G 1))/\Goes w W' bb (m+1) b b)
 \/(nT0 o.side=true/\¬o.id<1/\cZ0 (lieP o).price (lieP o).qty=false/\e=Y (.iface 26 (U G 2))/\Goes w W' bb (m+1) b b)
 \/(nT0 o.side=true/\¬o.id<1/\cZ0 (lieP o).price (lieP o).qty=true/\nH1 b.S o.id/\e=Y (.iface 26 (U G 9))/\Goes w W' bb (m+1) b b)
 \/(nT0 o.side=true/\¬o.id<1/\cZ0 (lieP o).price (lieP o).qty=true/\(∀s,s<2->∀x∈b.S s,x.o.id≠o.id)/\(b.S 0).length+(b.S 1).length=100/\e=Y (.iface 26 (U G 12))/\Goes w W' bb (m+1) b b)
 \/(nT0 o.side=true/\¬o.id<1/\cZ0 (lieP o).price (lieP o).qty=true/\(∀s,s<2->∀x∈b.S s,x.o.id≠o.id)/\(b.S 0).length+(b.S 1).length<100/\e=Y .nilIface
  /\∃(b':BkS) (s k:Nat) (a:Int),s<2/\o.side=(s:Int)+1/\b'.S=upS b.S s (eS0 (hV0 (lieP o) ((b.S s).map Ly.o)) ⟨k,a,lieP o⟩ (b.S s))/\Goes w W' bb (m+1) b b')
theorem vJ0 (i:Nat) (x:Ly) (l:List Ly):(eS0 i x l).Perm (x::l):=by
 have:=List.perm_middle (a:=x) (l₁:=l.take i) (l₂:=l.drop i)
 rwa [dE] at this
def zZ1 (b:BkS) (s k:Nat) (ag:Int) (p:Ord) (vs' vf' v':Value) (rs1:List Sot) (fr1:List Nat):BkS:=
 ⟨b.ab,b.mb,b.n+1,vs',vf',rowV b.v0 v' s 0,rowV b.v1 v' s 1,rs1.set k (some p,ag),fr1,upS b.S s (eS0 (hV0 p ((b.S s).map Ly.o)) ⟨k,ag,p⟩ (b.S s))⟩
theorem nJ1 {S:Nat->List Ly} {s i:Nat} {x:Ly} (t:Nat) (y:Ly):y∈upS S s (eS0 i x (S s)) t↔((t=s/\y=x)\/y∈S t):=by
 by_cases e:t=s
 ·subst e;rw [jI0,(vJ0 i x (S t)).mem_iff];simp
 ·rw [hQ0 _ e];simp [e]
theorem nK1 {w I G H:World} {f m s k i v:Nat} {c:Int} {b:BkS} {p:Ord} {r q:Value} {d:List Sot} {g:List Nat} (h:Bk w f m b) (U:m+1<=900000) (E:s<2) (Q:dK1 b.rs b.fr k d g) (y:(soAt d k).2=c)
  (l:p.side=(s:Int)+1) (N:¬p.id<1) (F:(Lit.int .i64 p.id).wf=true) (V:cZ0 p.price p.qty=true) (B:∀t,t<2->∀x∈b.S t,x.o.id≠p.id) (T:(b.S 0).length+(b.S 1).length<100)
  (M:Out (b.foot f) w I) (P:Went w (aoB b.ab b.vs b.vf) (aoB b.ab r q)) (z:(vAt b.v0 b.v1 s).ownBlock=some i\/I.heap.size<=i)
  (O:BookG G f b.ab b.mb b.n r q (rowV b.v0 (J (some ⟨i,0,none⟩) (eS0 (hV0 p ((b.S s).map Ly.o)) ⟨k,c,p⟩ (b.S s)).length v) s 0) (rowV b.v1 (J (some ⟨i,0,none⟩) (eS0 (hV0 p ((b.S s).map Ly.o)) ⟨k,c,p⟩ (b.S s)).length v) s 1) (d.set k (some p,c)) g b.S (upS b.S s (eS0 (hV0 p ((b.S s).map Ly.o)) ⟨k,c,p⟩ (b.S s))))
  (R:Out (fun j=>j=f\/(vAt b.v0 b.v1 s).ownBlock=some j) I G) (A:gH0 H b.mb (b.n+1) (upS b.S s (eS0 (hV0 p ((b.S s).map Ly.o)) ⟨k,c,p⟩ (b.S s)))) (u:Out (fun j=>j=b.mb) G H):
  Goes w H f (m+1) b (zZ1 b s k c p r q (J (some ⟨i,0,none⟩) (eS0 (hV0 p ((b.S s).map Ly.o)) ⟨k,c,p⟩ (b.S s)).length v) d g):=by
 obtain ⟨C,D⟩:inB 1 1000000 p.price=true/\inB 1 1000000 p.qty=true:=by simpa [cZ0] using V
 have K:=eR0 C;have L:=eR0 D;refine ⟨⟨(O.newMap u A).done,?_,Nat.succ_le_succ h.small,U⟩,?_,?_⟩
 ·subst y;exact h.ok.put Q E (vJ0 _ _ _) l ⟨o7,F,K.1,K.2,L.1,L.2⟩ B T
 ·refine (M.trans (R.mono (S':=b.foot f) (fun j a=>?_)) (aJ _ _)).trans (u.mono (S':=b.foot f) (fun j a=>aG (aG (aH a)))) (aJ _ _);rcases a with a | a
  ·exact aH a
  ·exact aG (aG (aG (dU1 E a)))
 ·have W:=zV0 (w:=w) (v0:=b.v0) (v1:=b.v1) (v':=J (some ⟨i,0,none⟩) (eS0 (hV0 p ((b.S s).map Ly.o)) ⟨k,c,p⟩ (b.S s)).length v) E (fun j a=>by
   have e:i=j:=by simpa [Value.ownBlock] using a
   subst e;exact z.imp id (fun h=>aI M.size h))
  rintro j (a | a | a | a)
  ·exact aH (aH a)
  ·exact (P j a).imp (fun h=>aG (aH h)) id
  ·exact aH (aG (aG (aH a)))
  ·exact (W j a).imp (fun h=>aG (aG (aG h))) id
theorem hH2 (bb m:Nat) (b:BkS) (o:Ord) (w:World) (h:Bk w bb m b) (hm:m+1<=900000) (hw:(Lit.int .i64 o.id).wf=true):
  Calls prog 242 #[E (some ⟨bb,0,none⟩),o.agg] w fun e W'=>nI1 w W' bb m b o e:=by
 have H:=hid7 h;have HW:=hid7 hw;clear h hw;unfold Ord.agg;go_enter func242,ntmps242;go_wp2_with fail;refine (lW0 o.side _).mono ?_;rintro e w1 ⟨rfl,hw⟩;subst hw;cases hs:(o.side == 1 || o.side == 2) with
 | false=>
  have HS:Hid (nT0 o.side=false):=hs;clear hs;go_wp2_with fail;go_ret;exact aH ⟨aH HS,rfl,Goes.stay H (bel1 _ _) (cH _) hm⟩
 | true=>
  have HS:Hid (nT0 o.side=true):=hs;clear hs
  by_cases b7:o.id<1
  ·have f8:=aE b7;go_wp2_with fail;go_ret;exact aH ⟨aG b7,rfl,Goes.stay H (bel1 _ _) (cH _) hm⟩
  ·have HI:=hid7 b7;go_upto_if 22 with fail;go_cut [23] (fun _ wc=>aL0 w wc/\hU0 wc w.heap.size (lieP o))
   case first=>
    by_cases hk:o.kind=2
    ·have f5:=beq_iff_eq.2 hk;have HK:Hid (lieP o={ o with price:=1 }):=by show lieP o=_;unfold lieP;rw [aB hk]
     clear hk;go_wp2_with fail;go_meet;exact ⟨bel1 _ _,by rw [HK.out];exact heap_alloc_new w _⟩
    ·have f5:=aC.2 hk;have HK:Hid (lieP o=o):=by show lieP o=_;unfold lieP;rw [aA hk]
     clear hk;go_wp2_with fail;go_meet;exact ⟨bel1 _ _,by rw [HK.out];exact heap_alloc_new w _⟩
   case rest=>
    obtain ⟨C,Z⟩:=hcut;have z:=hid7 (nG1 o);have b4:Hid ((lieP o).side=o.side):=zY0 o
    have HP:Hid (∀(e:Ending) (W':World),((nT0 o.side=true/\¬o.id<1/\cZ0 (lieP o).price (lieP o).qty=false/\e=Y (.iface 26 (U G 2))/\Goes w W' bb (m+1) b b)
      \/(nT0 o.side=true/\¬o.id<1/\cZ0 (lieP o).price (lieP o).qty=true/\nH1 b.S o.id/\e=Y (.iface 26 (U G 9))/\Goes w W' bb (m+1) b b)
      \/(nT0 o.side=true/\¬o.id<1/\cZ0 (lieP o).price (lieP o).qty=true/\(∀s,s<2->∀x∈b.S s,x.o.id≠o.id)/\(b.S 0).length+(b.S 1).length=100/\e=Y (.iface 26 (U G 12))/\Goes w W' bb (m+1) b b)
      \/(nT0 o.side=true/\¬o.id<1/\cZ0 (lieP o).price (lieP o).qty=true/\(∀s,s<2->∀x∈b.S s,x.o.id≠o.id)/\(b.S 0).length+(b.S 1).length<100/\e=Y .nilIface
       /\∃(b':BkS) (s k:Nat) (a:Int),s<2/\o.side=(s:Int)+1/\b'.S=upS b.S s (eS0 (hV0 (lieP o) ((b.S s).map Ly.o)) ⟨k,a,lieP o⟩ (b.S s))/\Goes w W' bb (m+1) b b'))->nI1 w W' bb m b o e):=fun e W' h=>aG h
    generalize lieP o=p at Z z b4 HP;have HB:=hid7 C;have HX:=hid7 Z;have z0:=aA0 (j:=0) Z rfl;have z1:=aA0 (j:=1) Z rfl;have z2:=aA0 (j:=2) Z rfl;have z3:=aA0 (j:=3) Z rfl;have z4:=aA0 (j:=4) Z rfl;clear Z C b7;go_wp2_with fail;refine (nN0 p.price p.qty _).mono ?_;rintro e w1 ⟨rfl,q⟩;have b3:=hid7 (aD0 HB q);have c9:Hid (hU0 w1 w.heap.size p):=aE0 HX q lR7;clear q z0 z1 z2 z3 z4;cases hr:cZ0 p.price p.qty with
    | false=>
     have HR:=hid7 hr;clear hr;go_wp2_with fail;go_ret;exact HP _ _ (aH ⟨HS,HI,HR,rfl,Goes.stay H b3 (cH _) hm⟩)
    | true=>
     have HR:=hid7 hr;clear hr;go_wp2_with fail;have a6:Hid (Bk w1 bb m b):=H.below b3 lR7;have m1:aC0 w1 bb 1 (.map (some b.mb)):=aA0 (j:=1) a6.at_.box rfl;have m2:aC0 w1 w.heap.size 0 (U G p.id):=aA0 (j:=0) c9 rfl;have c1:(Lit.int .i64 p.id).wf=true:=by rw [z.out];exact HW
     have lb:bb<w1.heap.size:=a6.lt (aH rfl);have lx:=lt_of_block c9;rcases qW0 b.S p.id with hl | hl
     ·obtain ⟨s,c,x,f3,c2⟩:=hl;have HL:Hid (nH1 b.S p.id):=⟨s,c,x,f3,c2⟩
      have a1:Hid (∀w',aL0 w1 w'->(aC0 w' bb 1 (.map (some b.mb))/\aC0 w' w.heap.size 0 (U G p.id)/\(Instr.lookup 229 (.map (some b.mb)) (U G p.id) true).run prog w'=.ok (.tuple #[.agg #[U G x.slot,U G x.age,U G s],.bool true]) w'/\aL0 w1 w')):=
       fun w' C=>⟨cell_later C m1,cell_later C m2,by
        have:=(a6.below C lR7).at_.map.yes c f3 (by rw [c2];exact c1)
        rwa [c2] at this,C⟩
      clear m1 m2 c1 c2;have a4:=a1 w1 (aF _ _)
      go_region_held3 (fun w'=>aC0 w' bb 1 (.map (some b.mb))/\aC0 w' w.heap.size 0 (U G p.id)/\(Instr.lookup 229 (.map (some b.mb)) (U G p.id) true).run prog w'=.ok (.tuple #[.agg #[U G x.slot,U G x.age,U G s],.bool true]) w'/\aL0 w1 w')
       ((refine a1 _ ?_;(repeat' first | assumption | exact aF _ _ | exact lR7 | refine aV ?_ | refine aS ?_ ?_ _ | (simp;done) | (simp;omega)))) (fail)
      all_goals go_wp2_with fail
      all_goals go_ret
      all_goals refine HP _ _ (aG (aH ⟨HS,HI,HR,z.out ▸ HL.out,rfl,Goes.stay H (aD0 b3 ?_) (cH _) hm⟩))
      all_goals (repeat' first | assumption | exact aF _ _ | exact lR7 | refine aV ?_ | refine aS ?_ ?_ _ | (simp;done) | (simp;omega))
     ·have HL:=hid7 hl
      have a1:Hid (∀w',aL0 w1 w'->(aC0 w' bb 1 (.map (some b.mb))/\aC0 w' w.heap.size 0 (U G p.id)/\(Instr.lookup 229 (.map (some b.mb)) (U G p.id) true).run prog w'=.ok (.tuple #[.agg #[U G 0,U G 0,U G 0],.bool false]) w'/\aL0 w1 w')):=
       fun w' C=>⟨cell_later C m1,cell_later C m2,(a6.below C lR7).at_.map.no hl c1,C⟩
      clear m1 m2 c1 hl;have a4:=a1 w1 (aF _ _);go_cut [5,6] from 31 to 40 (fun _ p6 wc=>p6=.bool false/\aL0 w1 wc)
      case first=>
       go_region_held3 (fun w'=>aC0 w' bb 1 (.map (some b.mb))/\aC0 w' w.heap.size 0 (U G p.id)/\(Instr.lookup 229 (.map (some b.mb)) (U G p.id) true).run prog w'=.ok (.tuple #[.agg #[U G 0,U G 0,U G 0],.bool false]) w'/\aL0 w1 w')
        ((refine a1 _ ?_;(repeat' first | assumption | exact aF _ _ | exact lR7 | refine aV ?_ | refine aS ?_ ?_ _ | (simp;done) | (simp;omega)))) (fail)
       all_goals go_wp2_with fail
       all_goals go_meet
       all_goals refine ⟨rfl,?_⟩
       all_goals (repeat' first | assumption | exact aF _ _ | exact lR7 | refine aV ?_ | refine aS ?_ ?_ _ | (simp;done) | (simp;omega))
      case rest=>
       obtain ⟨rfl,Q⟩:=hcut;have a5:=hid7 (aD0 b3 Q);have O:Hid (hU0 wc w.heap.size p):=aE0 c9 Q lR7;have g:Hid (Bk wc bb m b):=H.below a5 lR7;clear Q a4 a1 a6 lb lx;go_wp2_with fail;have n0:aC0 wc bb 0 (E (some ⟨b.ab,0,none⟩)):=aA0 (j:=0) g.at_.box rfl;have nb:¬aoB b.ab b.vs b.vf bb:=fun e=>g.at_.notBox e
       have nx:¬aoB b.ab b.vs b.vf w.heap.size:=fun e=>eP _ (H.at_.ar.lt e)
       have b6:Hid (∀w',Out (aoB b.ab b.vs b.vf) wc w'->(aC0 w' bb 0 (E (some ⟨b.ab,0,none⟩))/\aC0 w' w.heap.size 0 (U G p.id)/\aC0 w' w.heap.size 1 (U G p.side)/\aC0 w' w.heap.size 2 (U G p.kind)/\aC0 w' w.heap.size 3 (U G p.price)/\aC0 w' w.heap.size 4 (U G p.qty)/\Out (aoB b.ab b.vs b.vf) wc w')):=
        fun w' f=>⟨aA0 (j:=0) (aF0 g.at_.box f nb) rfl,aA0 (j:=0) (aF0 O f nx) rfl,aA0 (j:=1) (aF0 O f nx) rfl,aA0 (j:=2) (aF0 O f nx) rfl,aA0 (j:=3) (aF0 O f nx) rfl,aA0 (j:=4) (aF0 O f nx) rfl,f⟩
       have a4:=b6 wc (bL _ _);have lx:=lt_of_block O;have d1:b.rs.length<=1000000:=by have:=H.ok.so.small;have:=H.steps;omega
       have c7:=hid7 H.ok.so.cnt;clear n0
       by_cases T:(b.S 0).length+(b.S 1).length=100
       ·have HF:=hid7 T;have HC:Hid ((cntO b.rs:Int)=100):=by show _=_;rw [H.out.ok.cnt];omega
        clear T
        go_region_held3 (fun w'=>aC0 w' bb 0 (E (some ⟨b.ab,0,none⟩))/\aC0 w' w.heap.size 0 (U G p.id)/\aC0 w' w.heap.size 1 (U G p.side)/\aC0 w' w.heap.size 2 (U G p.kind)/\aC0 w' w.heap.size 3 (U G p.price)/\aC0 w' w.heap.size 4 (U G p.qty)/\Out (aoB b.ab b.vs b.vf) wc w')
         ((refine b6 _ ?_;(repeat' first | assumption | exact bL _ _ | refine aW0 ?_ | refine dD0 ?_ _ | refine aX0 ?_ D | refine gP0 ?_ ?_ | (simp;done) | (simp;omega) | (have h9:=D.size;simp at h9 ⊢;omega))))
         (first | (go_at_call 274;refine (jF1 b.ab 100 b.vs b.vf b.rs b.fr p _ (g.at_.ar.below (B:=wc.heap.size) ?_ lR7) d1 c7 HC).mono ?_;(repeat' first | assumption | exact aF _ _ | exact lR7 | refine aV ?_ | refine aS ?_ ?_ _ | (simp;done) | (simp;omega));rintro e w2 ⟨rfl,Q⟩;have q:=Q;have D:=aL (S:=aoB b.ab b.vs b.vf) Q lR7;try (have I:=(Q.block wc.heap.size s7).trans (heap_alloc_new wc _);have y0:=aA0 (j:=0) I rfl;have y1:=aA0 (j:=1) I rfl;have y2:=aB0 (j:=0) I;have y3:=aB0 (j:=1) I)))
        all_goals go_wp2_with fail
        all_goals go_ret
        all_goals refine HP _ _ (aG (aG (aH ⟨HS,HI,HR,z.out ▸ HL.out,HF,rfl,Goes.stay H (aD0 a5 ?_) (cH _) hm⟩)))
        all_goals (repeat' first | assumption | exact aF _ _ | exact lR7 | refine aV ?_ | refine aS ?_ ?_ _ | refine aD0 ?_ q | refine eO ?_ ?_ _ | (simp;done) | (simp;omega) | (have h9:=q.size;simp at h9 ⊢;omega))
       ·have HF:Hid ((b.S 0).length+(b.S 1).length<100):=by show _<_;have:=H.ok.most;omega
        have HC:Hid (¬(cntO b.rs:Int)=100):=by show ¬_;rw [H.out.ok.cnt];omega
        obtain ⟨k,F,L,hR⟩:=zH1 H.ok.so;obtain ⟨hk,_,_,_,_⟩:=sJ0 H.ok.so hR;have b5:=hid7 hR;clear T hR;generalize e7:(soAt F k).2=ag;have c5:=hid7 e7;clear e7;go_cut [7,8] from 43 to 51 (fun p7 p8 wd=>p8=.nilIface/\∃(C:Nat) (u r:Value),p7=E (some ⟨C,0,none⟩)/\wc.heap.size<=C/\bJ0 wd C #[U G k,U G ag] 240/\ArOr wd b.ab 100 u r (F.set k (some p,ag)) L/\Out (aoB b.ab b.vs b.vf) wc wd/\Went wc (aoB b.ab b.vs b.vf) (aoB b.ab u r))
        case first=>
         go_region_held3 (fun w'=>aC0 w' bb 0 (E (some ⟨b.ab,0,none⟩))/\aC0 w' w.heap.size 0 (U G p.id)/\aC0 w' w.heap.size 1 (U G p.side)/\aC0 w' w.heap.size 2 (U G p.kind)/\aC0 w' w.heap.size 3 (U G p.price)/\aC0 w' w.heap.size 4 (U G p.qty)/\Out (aoB b.ab b.vs b.vf) wc w')
          ((refine b6 _ ?_;(repeat' first | assumption | exact bL _ _ | refine aW0 ?_ | refine dD0 ?_ _ | refine aX0 ?_ D | refine gP0 ?_ ?_ | (simp;done) | (simp;omega) | (have h9:=D.size;simp at h9 ⊢;omega))))
          (first | (go_at_call 274;refine (hD2 b.ab 100 b.vs b.vf b.rs b.fr p k F L _ (g.at_.ar.below (B:=wc.heap.size) ?_ lR7) d1 c7 HC b5 hk).mono ?_;(repeat' first | assumption | exact aF _ _ | exact lR7 | refine aV ?_ | refine aS ?_ ?_ _ | (simp;done) | (simp;omega));rw [c5.out];rintro e w2 ⟨rfl,u,r,e4,D,d6⟩;try (have I:=aF0 (w:=(wc.alloc (R #[U G 0,U G 0] 240)).drew) (heap_alloc_new wc _) D (fun e=>eP _ (g.at_.ar.lt e));have y0:=aA0 (j:=0) I rfl;have y1:=aA0 (j:=1) I rfl;have y2:=aB0 (j:=0) I;have y3:=aB0 (j:=1) I)))
         ·go_wp2_with fail;go_meet;exact ⟨rfl,w2.heap.size,u,r,rfl,D.size,heap_alloc_new w2 _,e4.below (bel1 _ _) lR7,dD0 (aX0 (aW0 (bL _ wc)) D) _,d6⟩
         ·go_wp2_with fail;go_meet;have s3:=(aM0 w2 ⟨wc.heap.size,0,none⟩ (U G k)).trans (aM0 _ ⟨wc.heap.size,1,none⟩ (U G ag)) (aJ _ _);refine ⟨rfl,wc.heap.size,u,r,rfl,lR7,aJ0 (j:=1) _ (aJ0 (j:=0) _ I),e4.out s3 (fun j X e=>?_),gP0 (gP0 (aX0 (aW0 (dD0 (bL _ wc) _)) D) lR7) lR7,fun j X=>(d6 j X).imp id (fun h4=>by simp at h4;omega)⟩;have e':j=wc.heap.size:=e;rcases d6 j X with h4 | h4
          ·have:=g.at_.ar.lt h4;omega
          ·simp at h4;omega
        case rest=>
         obtain ⟨rfl,C,u,r,rfl,e9,hh,ha,f,f2⟩:=hcut;have d8:=aF0 O f nx;have e3:=hid7 d8;have d9:=hid7 hh;have c3:=hid7 (g.at_.newAr f ha);have c8:Hid (Out (b.foot bb) w wc):=(aL a5 lR7).trans (f.mono (S':=b.foot bb) (fun j X=>aG (aH X))) (aJ _ _);have e0:Hid (Went w (aoB b.ab b.vs b.vf) (aoB b.ab u r)):=fun j X=>(f2 j X).imp id (fun h4=>aI a5.size h4)
         have f4:Hid (w.heap.size+1<=C):=aI lx e9;clear f f2 e9 a4 nb nx b6 HC d1 c7 lx O a5 g
         obtain ⟨s,c,d4⟩:∃s:Nat,s<2/\p.side=(s:Int)+1:=by
          have h1:=HS.out;rw [<-b4.out] at h1;unfold nT0 at h1;simp only [dR,beq_iff_eq] at h1;rcases h1 with h1 | h1
          ·exact ⟨0,d7,by rw [h1];rfl⟩
          ·exact ⟨1,d7,by rw [h1];rfl⟩
         have f7:IntKind.i64.wrap (p.side - 1)=(s:Int):=by rw [d4,show (s:Int)+1 - 1=s by omega];exact IntWalk.i64_in _ o7
         have W:=hid7 d4;have z0:=aA0 (j:=0) hh rfl;have z1:=aA0 (j:=1) hh rfl;have z2:=aA0 (j:=1) d8 rfl;clear d4 hh d8 ha;go_upto_region 14 with fail;have a3:=bel1 wc (R #[U G k,U G ag,U G s] 242);have c0:=heap_alloc_new wc (R #[U G k,U G ag,U G s] 242);have b9:w.heap.size<=wc.heap.size:=c8.size;generalize wc.alloc (R #[U G k,U G ag,U G s] 242)=we at a3 c0 ⊢;have a2:Hid (hU0 we w.heap.size p):=aE0 e3 a3 lR7;have c4:Hid (bJ0 we C #[U G k,U G ag] 240):=aE0 d9 a3 lR7;have d:Hid (BookAt we bb b.ab b.mb b.n u r b.v0 b.v1 (F.set k (some p,ag)) L b.S):=c3.below a3 lR7;have e1:Hid (Out (b.foot bb) w we):=c8.trans (aL a3 lR7) (aJ _ _);generalize wc.heap.size=pb at c0 b9 ⊢;have a0:=hid7 c0;clear a3 c0 e3 d9 c3 c8 z0 z1 z2;have d3:∀j,(vAt b.v0 b.v1 s).ownBlock=some j->j<w.heap.size:=fun j X=>H.lt (aG (aG (aG (dU1 c X))))
         have nT:∀{j:Nat} {vs:Array Value} {t:TypeId},bJ0 we j vs t->w.heap.size<=j->¬((vAt b.v0 b.v1 s).ownBlock=some j):=fun {j vs t} X hl e=>by
          have:=d3 _ e;omega
         have l:Hid (∀w',Out (fun j=>(vAt b.v0 b.v1 s).ownBlock=some j) we w'->(aC0 w' pb 2 (U G s)/\aC0 w' w.heap.size 0 (U G p.id)/\aC0 w' w.heap.size 1 (U G p.side)/\aC0 w' w.heap.size 2 (U G p.kind)/\aC0 w' w.heap.size 3 (U G p.price)/\aC0 w' w.heap.size 4 (U G p.qty)/\aC0 w' C 0 (U G k)/\aC0 w' C 1 (U G ag)/\aC0 w' bb (2+s) (vAt b.v0 b.v1 s)/\Out (fun j=>(vAt b.v0 b.v1 s).ownBlock=some j) we w')):=fun w' f=>by
          have P:=aF0 a0 f (nT a0 b9);have g2:=aF0 a2 f (nT a2 lR7);have g3:=aF0 c4.out f (nT c4.out (by have:=f4.out;omega));have g4:=aF0 d.box f (d.mid.rowNotBox c);exact ⟨aA0 (j:=2) P rfl,aA0 (j:=0) g2 rfl,aA0 (j:=1) g2 rfl,aA0 (j:=2) g2 rfl,aA0 (j:=3) g2 rfl,aA0 (j:=4) g2 rfl,aA0 (j:=0) g3 rfl,aA0 (j:=1) g3 rfl,(nR0 g4 c).1,f⟩
         have e2:Hid (∀x∈b.S s,soAt (F.set k (some p,ag)) x.slot=(some x.o,x.age)):=fun x Z=>by
          obtain ⟨h1,h2⟩:=(sJ0 H.ok.so b5).2.2.1 _ _ _ (H.ok.there s c x Z);rw [cG0 _ (Ne.symm h1)];exact h2
         have b8:(b.S s).length<=1000:=by
          have h1:=(sI0 b.S [] c).2;have h2:=H.out.ok.most;omega
         have f0:hV0 p ((b.S s).map Ly.o)<=(b.S s).length:=by
          have:=sZ1 p ((b.S s).map Ly.o)
          simpa using this
         have q1:(0:Int)<=(s:Int):=o7;have q2:(s:Int)<2:=o7;clear nT;refine fE0 (fun w'=>aC0 w' pb 2 (U G s)/\aC0 w' w.heap.size 0 (U G p.id)/\aC0 w' w.heap.size 1 (U G p.side)/\aC0 w' w.heap.size 2 (U G p.kind)/\aC0 w' w.heap.size 3 (U G p.price)/\aC0 w' w.heap.size 4 (U G p.qty)/\aC0 w' C 0 (U G k)/\aC0 w' C 1 (U G ag)/\aC0 w' bb (2+s) (vAt b.v0 b.v1 s)/\Out (fun j=>(vAt b.v0 b.v1 s).ownBlock=some j) we w') (fun i=>i == 21) k7 (l _ (aW0 (bL _ _))) (fun hHeld=>?_);refine tkL9 0 a7 ?_;refine tkL9 1 a7 ?_;refine tkL9 2 a7 ?_;refine tkL9 3 a7 ?_;refine tkL9 4 a7 ?_;refine tkL9 5 a7 ?_;refine tkL9 6 a7 ?_;refine tkL9 7 a7 ?_;refine tkL9 8 a7 ?_;refine tkL9 9 a7 ?_;refine tkL9 10 a7 ?_;refine tkL9 11 a7 ?_;refine tkL9 12 a7 ?_;refine tkL9 13 a7 ?_;refine tkL9 15 a7 ?_;refine tkL9 18 a7 ?_;refine tkL9 19 a7 ?_;refine aN0 (rs:=[14,16]) k7 s7 ?_;refine aG0.cons rfl (fun K v=>?_) (aG0.cons rfl (fun K v=>?_) aG0.nil)
         ·go_simp;refine (nF1 bb b.ab b.mb b.n s u r b.v0 b.v1 (F.set k (some p,ag)) L b.S p we _ c b8 e2 d (aF _ _).drew).mono ?_;rintro e w5 ⟨rfl,e8,q,e5,l5⟩;dsimp only;refine v.out _ _ (fun _=>l _ (aL q lR7)) (fun hHeld=>?_);replace hHeld:=hHeld rfl;clear v K;refine aN0 (rs:=[16]) k7 s7 ?_;refine aG0.cons rfl (fun K v=>?_) aG0.nil;go_simp;refine v.out _ _ (fun _=>l _ (dD0 (aL q lR7) _)) (fun hHeld=>?_);replace hHeld:=hHeld rfl;clear v K;have d0:aL0 we (w5.alloc (R #[U G k,U G ag] 240)):=aD0 q (bel1 _ _);have b2:=heap_alloc_new w5 (R #[U G k,U G ag] 240);have d5:=q.size;refine aN0 (rs:=[17]) k7 s7 ?_;refine aG0.cons rfl (fun K v=>?_) aG0.nil;go_simp;refine (zW0 _ _ bb b.ab b.mb b.n s u r b.v0 b.v1 (F.set k (some p,ag)) L b.S ⟨k,ag,p⟩ we _ c b8 f0 d d0 b2 d5).mono ?_;rintro e w6 ⟨g6,c6,rfl,b1,M,V,d2,e6,f6⟩;dsimp only;refine v.out _ _ (fun _=>l _ M) (fun hHeld=>?_);replace hHeld:=hHeld rfl;clear v K;refine aN0 (rs:=[20]) k7 s7 ?_;refine aG0.cons rfl (fun K v=>?_) aG0.nil;go_simp;refine v.out _ _ (fun _=>l _ M) (fun hHeld=>?_);replace hHeld:=hHeld rfl;clear v K;refine aN0 (rs:=[21]) k7 s7 ?_;refine aG0.cons rfl (fun K v=>?_) aG0.nil;go_simp;refine v.out _ _ (fun h=>by cases h) (fun _=>?_);refine gS0 k7 ?_ _;go_wp2_with fail;obtain ⟨A,hT⟩:=d.mid.newRow c b1 M V;generalize w6.setCell ⟨bb,2+s,none⟩ (J (some ⟨g6,0,none⟩) (eS0 (hV0 p ((b.S s).map Ly.o)) ⟨k,ag,p⟩ (b.S s)).length c6)=w7 at A hT ⊢;obtain ⟨w8,f1,a9,b0⟩:=(A.map.same (w':=w7.drew) rfl).put (x:=⟨k,ag,p⟩) (S':=upS b.S s (eS0 (hV0 p ((b.S s).map Ly.o)) ⟨k,ag,p⟩ (b.S s))) c (by show (Lit.int .i64 p.id).wf=true;rw [z.out];exact HW) (by have:=H.small;omega) HL (fun t _ y=>nJ1 t y);have a8:Hid (Goes w w8 bb (m+1) b (zZ1 b s k ag p u r (J (some ⟨g6,0,none⟩) (eS0 (hV0 p ((b.S s).map Ly.o)) ⟨k,ag,p⟩ (b.S s)).length c6) F L)):=nK1 H hm c b5 c5 W (by rw [z.out];have:=HI;omega) (by rw [z.out];exact HW) HR HL HF e1 e0 V A hT a9 (aX0 (aW0 (bL _ _)) b0)
          have nT:∀{j:Nat} {vs:Array Value} {t:TypeId},bJ0 we j vs t->t≠233->w.heap.size<=j->¬(j=bb\/(vAt b.v0 b.v1 s).ownBlock=some j):=fun {j vs t} X ht hl e=>by
           rcases e with e | e
           ·exact dQ0 X d.box ht e
           ·have:=d3 _ e;omega
          have P:=aF0 a0 hT (nT a0 d7 b9);have g2:=aF0 a2 hT (nT a2 d7 lR7)
          have N:Hid (∀w',Out (fun j=>j=b.mb) w7 w'->(aC0 w' bb 1 (.map (some b.mb))/\aC0 w' w.heap.size 0 (U G p.id)/\aC0 w' pb 0 (U G k)/\aC0 w' pb 1 (U G ag)/\aC0 w' pb 2 (U G s)/\Out (fun j=>j=b.mb) w7 w')):=fun w' f=>
           ⟨aA0 (j:=1) (aF0 A.box f (A.map.ne A.box)) rfl,aA0 (j:=0) (aF0 g2 f (A.map.ne g2)) rfl,aA0 (j:=0) (aF0 P f (A.map.ne P)) rfl,aA0 (j:=1) (aF0 P f (A.map.ne P)) rfl,aA0 (j:=2) (aF0 P f (A.map.ne P)) rfl,f⟩
          have a4:=N w7 (bL _ _);have D:Out (fun j=>j=b.mb) w7 w8:=aX0 (aW0 (bL _ _)) b0;clear A hT a9 nT P g2 b1 M V d2 e6 f6 b2 hHeld
          go_region_held3 (fun w'=>aC0 w' bb 1 (.map (some b.mb))/\aC0 w' w.heap.size 0 (U G p.id)/\aC0 w' pb 0 (U G k)/\aC0 w' pb 1 (U G ag)/\aC0 w' pb 2 (U G s)/\Out (fun j=>j=b.mb) w7 w')
           ((refine N _ ?_;first | assumption | exact aW0 (bL _ _))) (fail)
          go_wp2_with fail;go_ret;exact HP _ _ (aG (aG (aG ⟨HS,HI,HR,(fun t ht x Z=>z.out ▸ HL.out t ht x Z),HF,rfl,_,s,k,ag,c,by rw [<-b4.out];exact W,rfl,a8⟩)))
         ·go_simp;refine v.out _ _ (fun _=>l _ (aW0 (dD0 (bL _ _) _))) (fun hHeld=>?_);replace hHeld:=hHeld rfl;clear v K;refine aN0 (rs:=[14]) k7 s7 ?_;refine aG0.cons rfl (fun K v=>?_) aG0.nil;go_simp;refine (nF1 bb b.ab b.mb b.n s u r b.v0 b.v1 (F.set k (some p,ag)) L b.S p we _ c b8 e2 d (bel1 _ _).drew).mono ?_;rintro e w5 ⟨rfl,e8,q,e5,l5⟩;dsimp only;refine v.out _ _ (fun _=>l _ (aL q lR7)) (fun hHeld=>?_);replace hHeld:=hHeld rfl;clear v K;have d0:=q;have b2:=(e8.block we.heap.size s7).trans (heap_alloc_new we (R #[U G k,U G ag] 240));have d5:we.heap.size<=we.heap.size:=lR7;refine aN0 (rs:=[17]) k7 s7 ?_;refine aG0.cons rfl (fun K v=>?_) aG0.nil;go_simp;refine (zW0 _ _ bb b.ab b.mb b.n s u r b.v0 b.v1 (F.set k (some p,ag)) L b.S ⟨k,ag,p⟩ we _ c b8 f0 d d0 b2 d5).mono ?_;rintro e w6 ⟨g6,c6,rfl,b1,M,V,d2,e6,f6⟩;dsimp only;refine v.out _ _ (fun _=>l _ M) (fun hHeld=>?_);replace hHeld:=hHeld rfl;clear v K;refine aN0 (rs:=[20]) k7 s7 ?_;refine aG0.cons rfl (fun K v=>?_) aG0.nil;go_simp;refine v.out _ _ (fun _=>l _ M) (fun hHeld=>?_);replace hHeld:=hHeld rfl;clear v K;refine aN0 (rs:=[21]) k7 s7 ?_;refine aG0.cons rfl (fun K v=>?_) aG0.nil;go_simp;refine v.out _ _ (fun h=>by cases h) (fun _=>?_);refine gS0 k7 ?_ _;go_wp2_with fail;obtain ⟨A,hT⟩:=d.mid.newRow c b1 M V;generalize w6.setCell ⟨bb,2+s,none⟩ (J (some ⟨g6,0,none⟩) (eS0 (hV0 p ((b.S s).map Ly.o)) ⟨k,ag,p⟩ (b.S s)).length c6)=w7 at A hT ⊢;obtain ⟨w8,f1,a9,b0⟩:=(A.map.same (w':=w7.drew) rfl).put (x:=⟨k,ag,p⟩) (S':=upS b.S s (eS0 (hV0 p ((b.S s).map Ly.o)) ⟨k,ag,p⟩ (b.S s))) c (by show (Lit.int .i64 p.id).wf=true;rw [z.out];exact HW) (by have:=H.small;omega) HL (fun t _ y=>nJ1 t y);have a8:Hid (Goes w w8 bb (m+1) b (zZ1 b s k ag p u r (J (some ⟨g6,0,none⟩) (eS0 (hV0 p ((b.S s).map Ly.o)) ⟨k,ag,p⟩ (b.S s)).length c6) F L)):=nK1 H hm c b5 c5 W (by rw [z.out];have:=HI;omega) (by rw [z.out];exact HW) HR HL HF e1 e0 V A hT a9 (aX0 (aW0 (bL _ _)) b0)
          have nT:∀{j:Nat} {vs:Array Value} {t:TypeId},bJ0 we j vs t->t≠233->w.heap.size<=j->¬(j=bb\/(vAt b.v0 b.v1 s).ownBlock=some j):=fun {j vs t} X ht hl e=>by
           rcases e with e | e
           ·exact dQ0 X d.box ht e
           ·have:=d3 _ e;omega
          have P:=aF0 a0 hT (nT a0 d7 b9);have g2:=aF0 a2 hT (nT a2 d7 lR7)
          have N:Hid (∀w',Out (fun j=>j=b.mb) w7 w'->(aC0 w' bb 1 (.map (some b.mb))/\aC0 w' w.heap.size 0 (U G p.id)/\aC0 w' pb 0 (U G k)/\aC0 w' pb 1 (U G ag)/\aC0 w' pb 2 (U G s)/\Out (fun j=>j=b.mb) w7 w')):=fun w' f=>
           ⟨aA0 (j:=1) (aF0 A.box f (A.map.ne A.box)) rfl,aA0 (j:=0) (aF0 g2 f (A.map.ne g2)) rfl,aA0 (j:=0) (aF0 P f (A.map.ne P)) rfl,aA0 (j:=1) (aF0 P f (A.map.ne P)) rfl,aA0 (j:=2) (aF0 P f (A.map.ne P)) rfl,f⟩
          have a4:=N w7 (bL _ _);have D:Out (fun j=>j=b.mb) w7 w8:=aX0 (aW0 (bL _ _)) b0;clear A hT a9 nT P g2 b1 M V d2 e6 f6 b2 hHeld
          go_region_held3 (fun w'=>aC0 w' bb 1 (.map (some b.mb))/\aC0 w' w.heap.size 0 (U G p.id)/\aC0 w' pb 0 (U G k)/\aC0 w' pb 1 (U G ag)/\aC0 w' pb 2 (U G s)/\Out (fun j=>j=b.mb) w7 w')
           ((refine N _ ?_;first | assumption | exact aW0 (bL _ _))) (fail)
          go_wp2_with fail;go_ret;exact HP _ _ (aG (aG (aG ⟨HS,HI,HR,(fun t ht x Z=>z.out ▸ HL.out t ht x Z),HF,rfl,_,s,k,ag,c,by rw [<-b4.out];exact W,rfl,a8⟩)))
end
section
open Go.RowKit
theorem eK2 {l:List Ly} {k:Nat} (x:Ly) (h:k<l.length):((hV l).set (k*2) (U G x.slot)).set (k*2+1) (U G x.age)=hV (l.set k x):=by
 induction l generalizing k with
 | nil=>simp at h
 | cons r rs ih=>
  cases k with
  | zero=>rfl
  | succ k=>
   have:=ih (k:=k) (by simpa using h);rw [show (k+1)*2=k*2+1+1 by omega];simp only [hV,List.set_cons_succ];rw [<-this]
def iK0 (i j:Nat) (l:List Ly):List Ly:=l.take i++((l.take j).drop (i+1)++l.drop (j - 1))
theorem zZ0 {i:Nat} {l:List Ly} (a:i<l.length):iK0 i (i+1) l=l:=by
 unfold iK0;rw [dX (by simp;omega),bX];simp
theorem nU0 {i j:Nat} {l:List Ly} (a:i<j) (b:j<=l.length):(iK0 i j l).length=l.length:=by
 unfold iK0;simp;omega
theorem nL1 {i j:Nat} {l:List Ly} (a:i<j) (b:j<l.length):lyAt (iK0 i j l) j=lyAt l j:=by
 unfold lyAt iK0;rw [List.getD_eq_getElem?_getD,List.getD_eq_getElem?_getD,List.getElem?_append_right (by simp;omega),List.getElem?_append_right (by simp;omega),List.getElem?_drop];simp
 congr 2
 omega
theorem dV1 {i j:Nat} {l:List Ly} (f:i<j) (b:j<l.length):(iK0 i j l).set (j - 1) (lyAt l j)=iK0 i (j+1) l:=by
 have c:(l.take i).length=i:=by simp;omega
 have d:((l.take j).drop (i+1)).length=j - 1 - i:=by simp;omega
 unfold iK0;rw [fL _ _ o7,fL _ _ o7,c,d]
 congr 1
 rw [show j - 1 - i - (j - 1 - i)=0 by omega,show j+1 - 1=j by omega];obtain ⟨a,rfl⟩:∃a,j=a+1:=⟨j - 1,o7⟩;rw [show a+1 - 1=a by omega,bR (show a<l.length by omega),List.set_cons_zero]
 have e:(l.take (a+1+1)).drop (i+1)=(l.take (a+1)).drop (i+1)++[l[a+1]]:=by
  rw [List.take_succ_eq_append_getElem b,List.drop_append_of_le_length (by simp;omega)]
 rw [e,dG,lA0 b];rfl
def fJ0 (i:Nat) (l:List Ly):List Ly:=l.take i++l.drop (i+1)
theorem aA1 {i:Nat} {l:List Ly} (h:i<l.length):(fJ0 i l).length=l.length - 1:=by unfold fJ0;simp;omega
theorem vK0 {i:Nat} {l:List Ly} (h:i<l.length):l.Perm (lyAt l i::fJ0 i l):=by
 have c:l=l.take i++lyAt l i::l.drop (i+1):=by rw [lA0 h,<-bR h,dE]
 have b:=List.perm_middle (a:=lyAt l i) (l₁:=l.take i) (l₂:=l.drop (i+1));rw [<-c] at b;exact b
theorem jM1 {i:Nat} {l:List Ly} (h:i<l.length):(iK0 i l.length l).take (l.length - 1)=fJ0 i l:=by
 unfold iK0 fJ0;rw [List.take_length,<-dG,gW (by simp;omega)]
def isH (x:Ly) (k:Nat) (a:Int):Bool:=decide (x.slot=k)&& decide (x.age=a)
theorem yD1 (g:Nat) (k:Nat) (a:Int) (s:Int) (x:Ly) (w:World) (h:w.heap[g]? = some (R #[U G k,U G a,U G s] 242 (0,0))):
  Calls prog 172 #[.agg #[U G x.slot,U G x.age],E (some ⟨g,0,none⟩)] w fun e w'=>e=Y (.bool (isH x k a))/\Below w.heap.size w w':=by
 have l:=aA0 (j:=0) h rfl;have m:=aA0 (j:=1) h rfl;have n:=lt_of_block h;clear h
 by_cases b:x.slot=k
 ·by_cases c:x.age=a
  ·have d:Hid (isH x k a=true):=by show _=_;unfold isH;rw [aE b,aE c];rfl
   have f:((x.slot:Int) == (k:Int))=true:=by rw [b];exact beq_self_eq_true _
   have i:(x.age == a)=true:=by rw [c];exact beq_self_eq_true _
   clear b c;go_enter func172,ntmps172;go_wp2;go_ret;exact ⟨by rw [d.out];rfl,by (repeat' first | assumption | exact aF _ _ | exact lR7 | refine aV ?_ | refine aS ?_ ?_ _ | (simp;done) | (simp;omega))⟩
  ·have d:Hid (isH x k a=false):=by show _=_;unfold isH;rw [aD c,Bool.and_false]
   have f:((x.slot:Int) == (k:Int))=true:=by rw [b];exact beq_self_eq_true _
   have i:=aC.2 c;clear b c;go_enter func172,ntmps172;go_wp2;go_ret;exact ⟨by rw [d.out];rfl,by (repeat' first | assumption | exact aF _ _ | exact lR7 | refine aV ?_ | refine aS ?_ ?_ _ | (simp;done) | (simp;omega))⟩
 ·have d:Hid (isH x k a=false):=by show _=_;unfold isH;rw [aD b,Bool.false_and]
  have f:((x.slot:Int) == (k:Int))=false:=aC.2 o7;clear b;go_enter func172,ntmps172;go_wp2;go_ret;exact ⟨by rw [d.out];rfl,by (repeat' first | assumption | exact aF _ _ | exact lR7 | refine aV ?_ | refine aS ?_ ?_ _ | (simp;done) | (simp;omega))⟩
theorem eL2 (y k i g d:Nat) (a s:Int) (l:List Ly) (w:World) (A:w.ownsRow 0 240 2 (J (some ⟨g,0,none⟩) l.length d) l.length (hV l)) (K:l.length<=1000) (hi:i<l.length) (f:isH (lyAt l i) k a=true) (o:∀j,j<i->isH (lyAt l j) k a=false)
  (z:w.heap[y]? = some (R #[U G k,U G a,U G s] 242 (0,0))):
  Calls prog 244 #[J (some ⟨g,0,none⟩) l.length d,.func (.func 172) #[] #[E (some ⟨y,0,none⟩)]] w fun e w'=>e=Y (U G i)/\Below w.heap.size w w':=by
 have D:=hid7 A;have C:=hid7 z;have r:=hid7 f;have t:=hid7 o;clear A z f o;go_enter func244,ntmps244;go_wp2_with fail;go_loopw [8] (fun v wr=>∃j:Nat,j<=i/\v=U G j/\Below w.heap.size w wr) (fun v _=>l.length - (intOf v).toNat)
 case atStart=>exact ⟨0,aO _,rfl,aF _ _⟩
 case round=>
  obtain ⟨j,I,rfl,q⟩:=hrel;have B:=hid7 q;have b:=aU0 D.out q lR7;have n:j<l.length:=o7;have F:=(b.cellAt (j*2) o7).trans (jB1 n).1;have H:=(b.cellAt (j*2+1) o7).trans (jB1 n).2;have p:=aE0 C.out q lR7;have u:Hid _:=p;clear b q p;go_wp2_with fail;refine (yD1 y k a s (lyAt l j) _ u.out).mono ?_;rintro e w1 ⟨rfl,m⟩;have c:=hid7 (aD0 B.out m);clear m F H
  by_cases x:j=i
  ·subst x;rw [r.out];go_wp2_with fail;go_ret;exact ⟨rfl,c.out⟩
  ·rw [t.out j o7];go_wp2_with fail;go_roundw
   case rel=>exact ⟨j+1,o7,by go_num,c.out⟩
   case measure=>simp [intOf];omega
theorem zeroH (w:World):(zeroValue 240).run prog w=.ok (.agg #[U G 0,U G 0]) w:=k7
theorem xF0 (W:World) (g o c:Nat) (a:Array Value) (t:TypeId) (e:W.heap[g]? = some (R a t (0,0))) (b:o+2<=a.size):
  ∃W',(∀f,(Builtin.clear_ #[230] f #[J (some ⟨g,o,none⟩) 1 c]).run prog W=.ok (.tuple #[]) W')
   /\W'.heap[g]? = some (R (a.toList.take o++[Value.int .i64 0,Value.int .i64 0]++a.toList.drop (o+2)).toArray t (0,0))/\Out (fun j=>j=g) W W':=by
 refine ⟨W.setRow g (a.toList.take o++[Value.int .i64 0,Value.int .i64 0]++a.toList.drop (o+2)).toArray,fun f=>?_,setRow_heap W g _ _ t _ e,⟨rfl,rfl,rfl,by simp [iC],fun j _ k=>setRow_other W g j _ k⟩⟩;have d:=run_storeCells_at prog g o t [Value.int .i64 0,Value.int .i64 0] 0 a W e (by simpa using b) (by simp [Value.oneCell']);have m:=zeroH W;have l:=run_underlying (P:=prog) underlying230 (w:=W);simp only [Nat.add_zero,aZ,cU,bT,Nat.reduceAdd] at d;simp [Builtin.clear_,l,m,Builtin.zeroCells,Value.cells];rw [show List.map (fun i=>[Value.int .i64 0,Value.int .i64 0][i % 2]?.getD default) (dF 2)=[Value.int .i64 0,Value.int .i64 0] from rfl,d];simp
theorem aA2 (S k i g cap:Nat) (a s:Int) (l:List Ly) (w:World) (N:w.ownsRow 0 240 2 (J (some ⟨g,0,none⟩) l.length cap) l.length (hV l)) (hl:l.length<=1000) (hi:i<l.length) (D:isH (lyAt l i) k a=true) (L:∀j,j<l.length->j≠i->isH (lyAt l j) k a=false)
  (hp:w.heap[S]? = some (R #[U G k,U G a,U G s] 242 (0,0))):
  Calls prog 171 #[J (some ⟨g,0,none⟩) l.length cap,.func (.func 172) #[] #[E (some ⟨S,0,none⟩)]] w
   fun e w'=>e=Y (J (some ⟨g,0,none⟩) (fJ0 i l).length cap)/\w'.ownsRow 0 240 2 (J (some ⟨g,0,none⟩) (fJ0 i l).length cap) (fJ0 i l).length (hV (fJ0 i l))/\Out (fun j=>j=g) w w':=by
 have a1:S≠g:=fun e=>aH0 N hp d7 (by rw [e];rfl)
 have H:l.length<=cap/\cap<=maxLen:=by
  obtain ⟨_,_,e,h1,h2⟩:=bC0 N;simp only [aY,true_and] at e;omega
 unfold maxLen at H;have HR:=hid7 N;have HP:=hid7 hp;have V:=hid7 D;have B:=hid7 L;have lg:g<w.heap.size:=(N.lt g rfl).2;clear N hp D L;go_enter func171,ntmps171;go_wp2_with fail;refine (eL2 S k i g cap a s l _ HR.out hl hi V.out (fun j o=>B.out j o7 o7) HP.out).mono ?_;rintro e w0 ⟨rfl,F⟩;have z:=hid7 F;clear F;go_wp2_with fail;go_loopw [5,6] (fun v u wr=>∃n:Nat,i<=n/\n+1<=l.length/\v=U G n/\u=U G (n+1:Nat)/\wr.ownsRow 0 240 2 (J (some ⟨g,0,none⟩) l.length cap) l.length (hV (iK0 i (n+1) l))/\Out (fun j=>j=g) w wr) (fun _ u _=>l.length - (intOf u).toNat)
 case atStart=>exact ⟨i,lR7,o7,rfl,by go_num,by rw [zZ0 hi];exact aU0 HR.out z.out lR7,aL z.out lR7⟩
 case round=>
  obtain ⟨n,a5,a6,rfl,rfl,c,x⟩:=hrel;have C:=hid7 c;have r:=hid7 x
  by_cases t:n+1<l.length
  ·have O:(iK0 i (n+1) l).length=l.length:=nU0 o7 o7;have q:=jB1 (l:=iK0 i (n+1) l) (k:=n+1) o7;rw [nL1 o7 t] at q;have c0:=(c.cellAt ((n+1)*2) o7).trans q.1;have c1:=(c.cellAt ((n+1)*2+1) o7).trans q.2;have q0:(0:Int)<=((n+1:Nat):Int):=o7;have q1:((n+1:Nat):Int)<(l.length:Int):=o7;clear c x q;go_wp2_with fail;have f:=bel1 wr (R #[U G (lyAt l (n+1)).slot,U G (lyAt l (n+1)).age] 240);have Q:=heap_alloc_new wr (R #[U G (lyAt l (n+1)).slot,U G (lyAt l (n+1)).age] 240);refine (yD1 S k a s (lyAt l (n+1)) _ (aE0 (aF0 HP.out r.out a1) f lR7)).mono ?_;rintro e w1 ⟨rfl,d⟩;rw [B.out (n+1) t o7];have y:=aE0 Q d lR7;have b:=aU0 C.out (aD0 f d) lR7;have X:=hid7 b;have W:Hid (Out (fun j=>j=g) w w1):=r.out.trans (aL (aD0 f d) lR7) (aJ _ _);have a8:wr.heap.size≠g:=by have:=(C.out.lt g rfl).2;omega
   have v0:=aA0 (j:=0) y rfl;have v1:=aA0 (j:=1) y rfl;have q:=jB1 (l:=iK0 i (n+1) l) (k:=n) o7;have d0:=(b.cellAt (n*2) o7).trans q.1;have d1:=(b.cellAt (n*2+1) o7).trans q.2;have f0:=b.frozenAt (n*2);have f1:=b.frozenAt (n*2+1);have r0:(0:Int)<=(n:Int):=o7;have r1:(n:Int)<(l.length:Int):=o7;clear d f Q y b q c0 c1;go_wp2_with fail;go_roundw
   case rel=>
    obtain ⟨s1,s2⟩:=X.out.stored (n*2) (U G (lyAt l (n+1)).slot);obtain ⟨s3,s4⟩:=s1.stored (n*2+1) (U G (lyAt l (n+1)).age);have P:=dV1 (i:=i) (j:=n+1) (l:=l) o7 t;rw [show n+1 - 1=n by omega] at P;rw [eK2 _ o7,P] at s3;have s5:Out (fun j=>j=g) w _:=(W.out.trans (dJ s2 (fun j o=>by injection o with o;exact o.symm)) (aJ _ _)).trans (dJ s4 (fun j o=>by injection o with o;exact o.symm)) (aJ _ _)
    (repeat apply Exists.intro)
    refine ⟨⟨n+1,o7,o7,?_,?_,s3,s5⟩,rfl⟩
    ·go_num
    ·go_num
   case measure=>simp [intOf];omega
  ·have K:l.length=n+1:=o7;have O:(iK0 i (n+1) l).length=l.length:=nU0 o7 o7;rcases c.2 with ⟨T,_⟩ | ⟨g',a3,Z,T,_,hg,a7,a4,m,ht⟩
   ·simp at T
   simp only [aY,Option.some.injEq,Addr.mk.injEq,and_true,true_and] at T;obtain ⟨rfl,rfl⟩:=T;obtain ⟨W1,p,I,M⟩:=xF0 wr g (n*2) (cap - n) Z 240 hg (by rw [m];omega);have a0:=aA1 hi
   have A:Hid (W1.ownsRow 0 240 2 (J (some ⟨g,0,none⟩) n cap) n (hV (fJ0 i l))/\Out (fun j=>j=g) w W1/\(fJ0 i l).length=n):=by
    refine ⟨⟨by rw [fZ0];omega,aG ⟨g,cap,_,rfl,aO _,I,o7,by unfold maxLen;omega,?_,?_⟩⟩,r.out.trans M (aJ _ _),o7⟩
    ·simp [m];omega
    ·dsimp only;rw [dG,dP (by simp [m];omega),cO (by simp;omega),<-jM1 hi,K,show n+1 - 1=n by omega,<-zY1 o7,<-ht,List.take_take]
     congr 1
     omega
   have a2:∀ty,(Builtin.clear_ #[230] ty #[J (some ⟨g,n*2,none⟩) (l.length - n) (cap - n)]).run prog wr=.ok (.tuple #[]) W1:=by rw [show l.length - n=1 by omega];exact p
   have q0:(0:Int)<=(n:Int):=o7;have q1:(n:Int)<=(l.length:Int):=o7;have q2:¬(cap=n):=o7;have q3:n<=cap:=o7;have q4:n<=l.length:=o7;clear c x p I M hg m ht O a0 K;go_wp2_with fail;go_ret;obtain ⟨h1,h2,h3⟩:=A.out;rw [h3];exact ⟨rfl,h1,h2⟩
attribute [local go_sem ↓] Go.wp_at_zero Go.wp_at_succ
def five (w:World) (b:Nat) (o:Ord):World:=((((w.setCell ⟨b,0,none⟩ (U G o.id)).setCell ⟨b,1,none⟩ (U G o.side)).setCell ⟨b,2,none⟩ (U G o.kind)).setCell ⟨b,3,none⟩ (U G o.price)).setCell ⟨b,4,none⟩ (U G o.qty)
def xG0 (w:World) (b:Nat) (k a s:Int):World:=((w.setCell ⟨b,0,none⟩ (U G k)).setCell ⟨b,1,none⟩ (U G a)).setCell ⟨b,2,none⟩ (U G s)
theorem xH0 (w:World) (b:Nat) (o:Ord):Out (fun j=>j=b) w (five w b o):=fU1 w b _ _ _ _ _
theorem aB1 (w:World) (b:Nat) (k a s:Int):Out (fun j=>j=b) w (xG0 w b k a s):=
 ((aM0 w ⟨b,0,none⟩ _).trans (aM0 _ ⟨b,1,none⟩ _) (aJ _ _)).trans (aM0 _ ⟨b,2,none⟩ _) (aJ _ _)
theorem aB2 {w:World} {b:Nat} {u0 u1 u2 u3 u4:Value} {t:TypeId} (o:Ord) (h:w.heap[b]? = some (R #[u0,u1,u2,u3,u4] t (0,0))):(five w b o).heap[b]? = some (R #[U G o.id,U G o.side,U G o.kind,U G o.price,U G o.qty] t (0,0)):=
 aJ0 (j:=4) _ (aJ0 (j:=3) _ (aJ0 (j:=2) _ (aJ0 (j:=1) _ (aJ0 (j:=0) _ h))))
theorem tR1 {w:World} {b:Nat} {u0 u1 u2:Value} {t:TypeId} (k a s:Int) (h:w.heap[b]? = some (R #[u0,u1,u2] t (0,0))):(xG0 w b k a s).heap[b]? = some (R #[U G k,U G a,U G s] t (0,0)):=
 aJ0 (j:=2) _ (aJ0 (j:=1) _ (aJ0 (j:=0) _ h))
def plV (x:Ly) (s:Nat):Value:=.agg #[U G x.slot,U G x.age,U G s]
theorem nM1 (f m:Nat) (b:BkS) (id:Int) (w:World) (h:Bk w f m b) (i:(Lit.int .i64 id).wf=true) (d:∀s,s<2->∀x∈b.S s,x.o.id≠id):
  Calls prog 170 #[E (some ⟨f,0,none⟩),U G id] w fun e W'=>e=Y (.tuple #[Ord.none_.agg,.agg #[U G 0,U G 0,U G 0],.iface 26 (U G 7)])/\Below w.heap.size w W':=by
 have a:=bel2 w (R #[U G 0,U G 0,U G 0,U G 0,U G 0] 92) (R #[U G 0,U G 0,U G 0] 242);have c:=h.below a lR7;have k:w.cell? ⟨f,1,none⟩=some (.map (some b.mb)):=aA0 (j:=1) h.at_.box rfl;have g:=c.at_.map.no d i;have lb:f<w.heap.size:=h.lt (aH rfl);clear h c d i a;go_enter func170,ntmps170;go_wp2;refine bodyPost_ret (by simp [results,results170,go_sem];try rfl) rfl ?_;refine ⟨rfl,?_⟩
 (repeat' first | assumption | exact aF _ _ | exact lR7 | refine aV ?_ | refine aS ?_ ?_ _ | (simp;done) | (simp;omega))
theorem qX0 (A m s:Nat) (b:BkS) (x:Ly) (w:World) (h:Bk w A m b) (hs:s<2) (hx:x∈b.S s):
  Calls prog 170 #[E (some ⟨A,0,none⟩),U G x.o.id] w fun e W'=>e=Y (.tuple #[x.o.agg,plV x s,.nilIface])/\Below w.heap.size w W':=by
 have L:=bel2 w (R #[U G 0,U G 0,U G 0,U G 0,U G 0] 92) (R #[U G 0,U G 0,U G 0] 242);have W:=h.below L lR7;have m1:w.cell? ⟨A,1,none⟩=some (.map (some b.mb)):=aA0 (j:=1) h.at_.box rfl;have X:=W.at_.map.yes hs hx (h.ok.ok s hs x hx).2.1;have lb:A<w.heap.size:=h.lt (aH rfl);have HO:=hid7 (h.ok.there s hs x hx);have H:=hid7 h;clear h W L;unfold Ord.agg plV;go_enter func170,ntmps170;go_upto_region 4 with fail;have I:=bel2 w (R #[U G 0,U G 0,U G 0,U G 0,U G 0] 92) (R #[U G 0,U G 0,U G 0] 242);have g:=gA0 w (R #[U G 0,U G 0,U G 0,U G 0,U G 0] 92) (R #[U G 0,U G 0,U G 0] 242);have i:=eY0 w (R #[U G 0,U G 0,U G 0,U G 0,U G 0] 92) (R #[U G 0,U G 0,U G 0] 242);have J:((w.alloc (R #[U G 0,U G 0,U G 0,U G 0,U G 0] 92)).alloc (R #[U G 0,U G 0,U G 0] 242)).heap.size=w.heap.size+1+1:=by simp
 generalize (w.alloc (R #[U G 0,U G 0,U G 0,U G 0,U G 0] 92)).alloc (R #[U G 0,U G 0,U G 0] 242)=wq at I g i J ⊢;have l:=bel1 wq (R #[U G x.slot,U G x.age,U G s] 242);have y:=heap_alloc_new wq (R #[U G x.slot,U G x.age,U G s] 242);rw [J] at y;have g:=aE0 g l lR7;have i:=aE0 i l lR7;have u:=aD0 I l;generalize wq.alloc (R #[U G x.slot,U G x.age,U G s] 242)=wp at l g i y u ⊢;have HB:=hid7 u;have b3:=hid7 g;have b4:=hid7 i;have q:=hid7 y;have N:Hid (Bk wp A m b):=H.out.below u lR7;clear I l g i y u J m1 X
 have HS:Hid (∀w',Below wp.heap.size wp w'->(w'.cell? ⟨A,0,none⟩=some (E (some ⟨b.ab,0,none⟩))/\w'.cell? ⟨w.heap.size+1+1,0,none⟩=some (U G x.slot)/\w'.cell? ⟨w.heap.size+1+1,1,none⟩=some (U G x.age)/\Below wp.heap.size wp w')):=fun w' Z=>
  ⟨aA0 (j:=0) (aE0 N.out.at_.box Z lR7) rfl,aA0 (j:=0) (aE0 q.out Z lR7) rfl,aA0 (j:=1) (aE0 q.out Z lR7) rfl,Z⟩
 have b6:=HS.out wp (aF _ _);go_cut [9,10] from 25 to 34 (fun p9 b9 wd=>b9=.nilIface/\∃c,p9=E (some ⟨c,0,none⟩)/\wp.heap.size<=c/\hU0 wd c x.o/\Below wp.heap.size wp wd)
 case first=>
  go_region_held3 (fun w'=>w'.cell? ⟨A,0,none⟩=some (E (some ⟨b.ab,0,none⟩))/\w'.cell? ⟨w.heap.size+1+1,0,none⟩=some (U G x.slot)/\w'.cell? ⟨w.heap.size+1+1,1,none⟩=some (U G x.age)/\Below wp.heap.size wp w')
   ((refine HS.out _ ?_;(repeat' first | assumption | exact aF _ _ | exact lR7 | refine aV ?_ | refine aS ?_ ?_ _ | refine aD0 ?_ f | refine eO ?_ ?_ _ | (simp;done) | (simp;omega) | (have h9:=f.size;simp at h9 ⊢;omega))))
   (first | (go_at_call 243;refine (zJ1 b.ab 100 b.vs b.vf b.rs b.fr x.slot x.o x.age _ (N.out.at_.ar.below (B:=wp.heap.size) ?_ lR7) HO.out).mono ?_;(repeat' first | assumption | exact aF _ _ | exact lR7 | refine aV ?_ | refine aS ?_ ?_ _ | (simp;done) | (simp;omega));rintro e w1 ⟨f,rfl⟩;unfold Ord.agg;try (have a:=(f.block wp.heap.size s7).trans (heap_alloc_new wp _);have y0:=aA0 (j:=0) a rfl;have y1:=aA0 (j:=1) a rfl;have y2:=aA0 (j:=2) a rfl;have y3:=aA0 (j:=3) a rfl;have y4:=aA0 (j:=4) a rfl;have z0:=aB0 (j:=0) a;have z1:=aB0 (j:=1) a;have z2:=aB0 (j:=2) a;have z3:=aB0 (j:=3) a;have z4:=aB0 (j:=4) a)))
  ·go_wp2_with fail;go_meet;exact ⟨rfl,w1.heap.size,rfl,f.size,heap_alloc_new w1 _,aD0 (w1:=w1) (aD0 (w:=wp) (w1:=wp.drew) (aF _ _).drew f) (bel1 _ _)⟩
  ·go_wp2_with fail;go_meet;refine ⟨rfl,wp.heap.size,rfl,lR7,aJ0 (j:=4) (U G x.o.qty) (aJ0 (j:=3) (U G x.o.price) (aJ0 (j:=2) (U G x.o.kind) (aJ0 (j:=1) (U G x.o.side) (aJ0 (j:=0) (U G x.o.id) a)))),?_⟩;have h8:Below wp.heap.size wp w1:=aD0 (bel1 wp _).drew f;exact ((((h8.setCell (p:=⟨wp.heap.size,0,none⟩) lR7 _).setCell (p:=⟨wp.heap.size,1,none⟩) lR7 _).setCell (p:=⟨wp.heap.size,2,none⟩) lR7 _).setCell (p:=⟨wp.heap.size,3,none⟩) lR7 _).setCell (p:=⟨wp.heap.size,4,none⟩) lR7 _
 case rest=>
  obtain ⟨rfl,c,rfl,b8,d,n⟩:=hcut;have k:=aE0 b3.out n lR7;have z:=aE0 b4.out n lR7;have V:=aE0 q.out n lR7;have lp:=lt_of_block q.out;have M:=hid7 (aD0 HB.out n);have x0:=aA0 (j:=0) d rfl;have x1:=aA0 (j:=1) d rfl;have x2:=aA0 (j:=2) d rfl;have x3:=aA0 (j:=3) d rfl;have x4:=aA0 (j:=4) d rfl;have p0:=aA0 (j:=0) V rfl;have p1:=aA0 (j:=1) V rfl;have p2:=aA0 (j:=2) V rfl;have n1:c≠w.heap.size:=o7;have n2:c≠w.heap.size+1:=o7;have b5:=hid7 d;have a8:=hid7 V;have a5:Hid _:=k;have a6:Hid _:=z;have a0:=aA0 (j:=0) k rfl;have a1:=aA0 (j:=1) k rfl;have a2:=aA0 (j:=2) k rfl;have a3:=aA0 (j:=3) k rfl;have a4:=aA0 (j:=4) k rfl;have b0:=aA0 (j:=0) z rfl;have b1:=aA0 (j:=1) z rfl;have b2:=aA0 (j:=2) z rfl;have f0:=aB0 (j:=0) k;have f1:=aB0 (j:=1) k;have f2:=aB0 (j:=2) k;have f3:=aB0 (j:=3) k;have f4:=aB0 (j:=4) k;have f5:=aB0 (j:=0) z;have f6:=aB0 (j:=1) z;have f7:=aB0 (j:=2) z;clear b6 HS n d k z V b8 lp;go_wp2_with fail
  have r:Hid (∀w',Out (fun j=>j=w.heap.size\/j=w.heap.size+1) wc w'->(w'.cell? ⟨c,0,none⟩=some (U G x.o.id)/\w'.cell? ⟨c,1,none⟩=some (U G x.o.side)/\w'.cell? ⟨c,2,none⟩=some (U G x.o.kind)/\w'.cell? ⟨c,3,none⟩=some (U G x.o.price)/\w'.cell? ⟨c,4,none⟩=some (U G x.o.qty)/\w'.cell? ⟨w.heap.size+1+1,0,none⟩=some (U G x.slot)/\w'.cell? ⟨w.heap.size+1+1,1,none⟩=some (U G x.age)/\w'.cell? ⟨w.heap.size+1+1,2,none⟩=some (U G s)/\Out (fun j=>j=w.heap.size\/j=w.heap.size+1) wc w')):=fun w' ho=>by
   have k1:=aF0 b5.out ho (fun e=>by rcases e with e | e <;> omega);have k2:=aF0 a8.out ho (fun e=>by rcases e with e | e <;> omega);exact ⟨aA0 (j:=0) k1 rfl,aA0 (j:=1) k1 rfl,aA0 (j:=2) k1 rfl,aA0 (j:=3) k1 rfl,aA0 (j:=4) k1 rfl,aA0 (j:=0) k2 rfl,aA0 (j:=1) k2 rfl,aA0 (j:=2) k2 rfl,ho⟩
  have b7:=r.out wc (bL _ _);have F:Out (fun j=>j=w.heap.size\/j=w.heap.size+1) wc (five wc w.heap.size x.o).drew:=aW0 ((xH0 wc _ _).mono (fun j v=>aH v));have t:Out (fun j=>j=w.heap.size\/j=w.heap.size+1) wc (xG0 (five wc w.heap.size x.o) (w.heap.size+1) x.slot x.age s).drew:=aW0 (((xH0 wc _ _).mono (fun j v=>aH v)).trans ((aB1 _ _ _ _ _).mono (fun j v=>aG v)) (aJ _ _));have j1:(xG0 (five wc w.heap.size x.o) (w.heap.size+1) x.slot x.age s).heap[w.heap.size]? = some (R #[U G x.o.id,U G x.o.side,U G x.o.kind,U G x.o.price,U G x.o.qty] 92 (0,0)):=aF0 (aB2 (w:=wc) x.o a5.out) (aB1 _ _ _ _ _) (fun e=>Nat.ne_of_lt (gP _) e);have j2:(xG0 (five wc w.heap.size x.o) (w.heap.size+1) x.slot x.age s).heap[w.heap.size+1]? = some (R #[U G x.slot,U G x.age,U G s] 242 (0,0)):=tR1 (w:=five wc w.heap.size x.o) _ _ _ (aF0 (w:=wc) a6.out (xH0 _ _ _) (fun e=>Nat.ne_of_gt (gP _) e));have k1:(xG0 (five wc w.heap.size x.o) (w.heap.size+1) x.slot x.age s).drew.heap[w.heap.size]? = some (R #[U G x.o.id,U G x.o.side,U G x.o.kind,U G x.o.price,U G x.o.qty] 92 (0,0)):=by rw [lB0];exact j1
  have k2:(xG0 (five wc w.heap.size x.o) (w.heap.size+1) x.slot x.age s).drew.heap[w.heap.size+1]? = some (R #[U G x.slot,U G x.age,U G s] 242 (0,0)):=by rw [lB0];exact j2
  clear j1 j2;have k3:Below w.heap.size w (xG0 (five wc w.heap.size x.o) (w.heap.size+1) x.slot x.age s).drew:=M.out.trans (t.below (fun j v=>by rcases v with v | v <;> omega) M.out.size);unfold xG0 five at t k1 k2 k3;unfold five at F;have a9:Hid _:=F;have T:Hid _:=t;have O:Hid _:=k1;have P:Hid _:=k2;have Q:Hid _:=k3;clear F t k1 k2 k3;clear x0 x1 x2 x3 x4 p0 p1 p2;refine fE0 (fun w'=>w'.cell? ⟨c,0,none⟩=some (U G x.o.id)/\w'.cell? ⟨c,1,none⟩=some (U G x.o.side)/\w'.cell? ⟨c,2,none⟩=some (U G x.o.kind)/\w'.cell? ⟨c,3,none⟩=some (U G x.o.price)/\w'.cell? ⟨c,4,none⟩=some (U G x.o.qty)/\w'.cell? ⟨w.heap.size+1+1,0,none⟩=some (U G x.slot)/\w'.cell? ⟨w.heap.size+1+1,1,none⟩=some (U G x.age)/\w'.cell? ⟨w.heap.size+1+1,2,none⟩=some (U G s)/\Out (fun j=>j=w.heap.size\/j=w.heap.size+1) wc w') (fun _=>false) k7 (r.out _ (aW0 (bL _ _))) (fun hHeld=>?_);refine tkL9 0 a7 ?_;refine tkL9 1 a7 ?_;refine tkL9 2 a7 ?_;refine aN0 (rs:=[3]) k7 s7 ?_;refine aG0.cons rfl (fun K C=>?_) aG0.nil;go_simp;refine C.out _ _ (fun _=>r.out _ a9.out) (fun hHeld=>?_);replace hHeld:=hHeld rfl;clear C K;refine aN0 (rs:=[4]) k7 s7 ?_;refine aG0.cons rfl (fun K C=>?_) aG0.nil;go_simp;have D:=T.out;have k1:=O.out;have k2:=P.out;have k3:=Q.out;clear T O P Q;generalize ((((((((wc.setCell ⟨w.heap.size,0,none⟩ (U G x.o.id)).setCell ⟨w.heap.size,1,none⟩ (U G x.o.side)).setCell ⟨w.heap.size,2,none⟩ (U G x.o.kind)).setCell ⟨w.heap.size,3,none⟩ (U G x.o.price)).setCell ⟨w.heap.size,4,none⟩ (U G x.o.qty)).setCell ⟨w.heap.size+1,0,none⟩ (U G x.slot)).setCell ⟨w.heap.size+1,1,none⟩ (U G x.age)).setCell ⟨w.heap.size+1,2,none⟩ (U G s)).drew=wz at D k1 k2 k3 ⊢;refine C.out _ _ (fun _=>r.out _ D) (fun hHeld=>?_);replace hHeld:=hHeld rfl;have e0:=aA0 (j:=0) k1 rfl;have e1:=aA0 (j:=1) k1 rfl;have e2:=aA0 (j:=2) k1 rfl;have e3:=aA0 (j:=3) k1 rfl;have e4:=aA0 (j:=4) k1 rfl;have e5:=aA0 (j:=0) k2 rfl;have e6:=aA0 (j:=1) k2 rfl;have e7:=aA0 (j:=2) k2 rfl;clear C K a0 a1 a2 a3 a4 b0 b1 b2 f0 f1 f2 f3 f4 f5 f6 f7 b7 D k1 k2;refine aN0 (rs:=[5]) k7 s7 ?_;refine aG0.cons rfl (fun K C=>?_) aG0.nil;go_simp;refine C.out _ _ (fun _=>hHeld) (fun _=>?_);refine gS0 k7 ?_ _;go_wp2_with fail;refine bodyPost_ret (by simp [results,results170,go_sem,e0,e1,e2,e3,e4,e5,e6,e7];try rfl) rfl ?_;exact ⟨rfl,k3⟩
end
section
open Go.RowKit
attribute [local go_sem ↓] Go.wp_at_zero Go.wp_at_succ
theorem aC1 (k m:Nat) (b:BkS) (id:Int) (w:World) (h:Bk w k m b) (v:(Lit.int .i64 id).wf=true) (f:∀s,s<2->∀x∈b.S s,x.o.id≠id):
  Calls prog 120 #[E (some ⟨k,0,none⟩),U G id] w fun e W'=>e=Y (.tuple #[Ord.none_.agg,.iface 26 (U G 7)])/\aL0 w W':=by
 have H:=hid7 h;have l:=hid7 f;clear h f;go_enter func120,ntmps120;go_wp2_with fail;refine (nM1 k m b id _ (H.below (bel1 _ _) lR7) v l).mono ?_;rintro e w1 ⟨rfl,d⟩;unfold Ord.agg Ord.none_;have a:=aE0 (heap_alloc_new w _) d lR7;have g:Hid (aL0 w w1):=aD0 (bel1 _ _) d;clear d;go_upto_region 3 with fail;have c:=bel2 w1 (R #[U G 0,U G 0,U G 0,U G 0,U G 0] 92) (R #[U G 0,U G 0,U G 0] 242);have a:=aE0 a c lR7;generalize (w1.alloc (R #[U G 0,U G 0,U G 0,U G 0,U G 0] 92)).alloc (R #[U G 0,U G 0,U G 0] 242)=w2 at c a ⊢;have i:=hid7 (aD0 g c);have n:=aA0 (j:=0) a rfl;have q:=aA0 (j:=1) a rfl;have r:=aA0 (j:=2) a rfl;have t:=aA0 (j:=3) a rfl;have u:=aA0 (j:=4) a rfl;have z:=aB0 (j:=0) a;have A:=aB0 (j:=1) a;have B:=aB0 (j:=2) a;have C:=aB0 (j:=3) a;have D:=aB0 (j:=4) a;clear c a;go_wp2;refine bodyPost_ret (by simp [results,results120,go_sem,n,q,r,t,u];try rfl) rfl ?_;refine ⟨rfl,?_⟩;have y:Below w.heap.size w2 w2:=aF _ _;exact i.trans (((((y.setCell (p:=⟨w.heap.size,0,none⟩) s7 _).setCell (p:=⟨w.heap.size,1,none⟩) s7 _).setCell (p:=⟨w.heap.size,2,none⟩) s7 _).setCell (p:=⟨w.heap.size,3,none⟩) s7 _).setCell (p:=⟨w.heap.size,4,none⟩) s7 _)
theorem tS1 {w:World} {v:Value} {n:Nat} {l:List Value} (h:w.ownsRow 0 240 2 v n l) (b:0<n):∃g cap,v=J (some ⟨g,0,none⟩) n cap:=by
 rcases h.2 with ⟨rfl,rfl⟩ | ⟨g,cap,a,rfl,_⟩
 ·exact absurd b (eP 0)
 ·exact ⟨g,cap,rfl⟩
theorem tT1 {m s i:Nat} {rs:List Sot} {fr:List Nat} {S:Nat->List Ly} {x:Ly} (h:Pb m rs fr S) (l:s<2) (hi:i<(S s).length) (d:lyAt (S s) i=x):isH (lyAt (S s) i) x.slot x.age=true/\∀j,j<(S s).length->j≠i->isH (lyAt (S s) j) x.slot x.age=false:=by
 have k:((S s).map Ly.slot).Nodup:=by
  have:=h.nd;rw [List.map_append] at this
  match s,l with
  | 0,_=>exact (dO.1 this).1
  | 1,_=>exact (dO.1 this).2.1
 refine ⟨by rw [d];simp [isH],fun j c a=>?_⟩
 have b:(lyAt (S s) j).slot≠x.slot:=fun e=>a (by
  rw [<-d,lA0 hi,lA0 c] at e;have f:j<((S s).map Ly.slot).length:=by simpa using c
  have g:i<((S s).map Ly.slot).length:=by simpa using hi
  exact (List.getElem_inj (h₀:=f) (h₁:=g) k).1 (by simpa using e))
 simp [isH,b]
theorem dW1 {x:Ly} {l:List Ly} (h:x∈l):∃i,i<l.length/\lyAt l i=x:=by
 obtain ⟨i,hi,e⟩:=List.mem_iff_getElem.1 h;exact ⟨i,hi,by rw [lA0 hi];exact e⟩
theorem tU1 {m s i:Nat} {rs:List Sot} {fr:List Nat} {S:Nat->List Ly} {x:Ly} (h:Pb m rs fr S) (g:s<2) (hi:i<(S s).length) (k:lyAt (S s) i=x):∀t,t<2->∀y,y∈upS S s (fJ0 i (S s)) t↔(y∈S t/\y.o.id≠x.o.id):=by
 have f:=vK0 hi;rw [k] at f;have c:(S 0++S 1).Perm (x::(upS S s (fJ0 i (S s)) 0++upS S s (fJ0 i (S s)) 1)):=(sH0 S g).trans ((f.append_right _).trans ((mF1 S _ g).symm.cons _));have d:=(c.map fun x=>x.o.id).nodup_iff.1 h.ids;simp only [List.map_cons,List.nodup_cons,List.mem_map,not_exists,not_and] at d;intro t j y
 have b:y∈upS S s (fJ0 i (S s)) t->y.o.id≠x.o.id:=fun a e=>d.1 y (by
  match t,j with
  | 0,_=>exact List.mem_append_left _ a
  | 1,_=>exact List.mem_append_right _ a) e
 by_cases e:t=s
 ·subst e;rw [jI0] at b ⊢;refine ⟨fun a=>⟨f.mem_iff.2 (List.mem_cons_of_mem _ a),b a⟩,fun ⟨a,hne⟩=>?_⟩;rcases aR.1 (f.mem_iff.1 a) with e | e
  ·exact absurd (by rw [e]) hne
  ·exact e
 ·rw [hQ0 _ e] at b ⊢;exact ⟨fun a=>⟨a,b a⟩,fun a=>a.1⟩
def yE1 (b:BkS) (s i:Nat) (x:Ly) (vf' v':Value):BkS:=
 ⟨b.ab,b.mb,b.n,b.vs,vf',rowV b.v0 v' s 0,rowV b.v1 v' s 1,b.rs.set x.slot (none,x.age+1),b.fr++[x.slot],upS b.S s (fJ0 i (b.S s))⟩
theorem aC2 {w y r B I:World} {d m s i g c:Nat} {b:BkS} {x:Ly} {f:Value} (h:Bk w d m b) (O:m+1<=900000) (u:s<2) (P:x∈b.S s) (hi:i<(b.S s).length) (z:lyAt (b.S s) i=x)
  (L:Out (b.foot d) w y) (H:w.heap.size<y.heap.size) (o:(vAt b.v0 b.v1 s).ownBlock=some g) (F:Out (fun j=>j=d\/(vAt b.v0 b.v1 s).ownBlock=some j) y r)
  (K:BookG r d b.ab b.mb b.n b.vs b.vf (rowV b.v0 (J (some ⟨g,0,none⟩) (fJ0 i (b.S s)).length c) s 0) (rowV b.v1 (J (some ⟨g,0,none⟩) (fJ0 i (b.S s)).length c) s 1) b.rs b.fr (upS b.S s (fJ0 i (b.S s))) (upS b.S s (fJ0 i (b.S s))))
  (N:ArOr B b.ab 100 b.vs f (b.rs.set x.slot (none,x.age+1)) (b.fr++[x.slot])) (p:Out (aoB b.ab b.vs b.vf) r B) (q:Went r (aoB b.ab b.vs b.vf) (aoB b.ab b.vs f)) (E:Out (fun j=>j=w.heap.size) B I):
  Goes w I d (m+1) b (yE1 b s i x f (J (some ⟨g,0,none⟩) (fJ0 i (b.S s)).length c)):=by
 have G:=vK0 hi;rw [z] at G;have A:w.heap.size<r.heap.size:=aT H F.size
 have T:=zV0 (w:=w) (v0:=b.v0) (v1:=b.v1) (v':=J (some ⟨g,0,none⟩) (fJ0 i (b.S s)).length c) u (fun j a=>by
   have e:g=j:=by simpa [Value.ownBlock] using a
   subst e;exact aH o)
 have l:∀j,(rowV b.v0 (J (some ⟨g,0,none⟩) (fJ0 i (b.S s)).length c) s 0).ownBlock=some j\/(rowV b.v1 (J (some ⟨g,0,none⟩) (fJ0 i (b.S s)).length c) s 1).ownBlock=some j->j<y.heap.size/\(b.v0.ownBlock=some j\/b.v1.ownBlock=some j):=fun j a=>by
  have C:b.v0.ownBlock=some j\/b.v1.ownBlock=some j:=by
   match s,u with
   | 0,_=>
    rcases a with a | a
    ·have e:g=j:=by simpa [rowV,Value.ownBlock] using a
     exact aH (e ▸ o)
    ·exact aG a
   | 1,_=>
    rcases a with a | a
    ·exact aH a
    ·have e:g=j:=by simpa [rowV,Value.ownBlock] using a
     exact aG (e ▸ o)
  exact ⟨Nat.lt_trans (h.lt (aG (aG (aG C)))) H,C⟩
 have M:Went w (b.foot d) ((yE1 b s i x f (J (some ⟨g,0,none⟩) (fJ0 i (b.S s)).length c)).foot d):=by
  rintro j (a | a | a | a)
  ·exact aH (aH a)
  ·exact (q j a).imp (fun h=>aG (aH h)) (fun h=>eU (aT A h))
  ·exact aH (aG (aG (aH a)))
  ·exact aH (aG (aG (aG (l j a).2)))
 refine ⟨⟨((K.newAr p N).out E (fun k hk e=>?_)).done,h.ok.gone u P G,Nat.le_succ_of_le h.small,O⟩,?_,M⟩
 ·have t:k=w.heap.size:=e;have v:∀j,b.foot d j->j≠w.heap.size:=fun j a e=>by have:=h.lt a;omega
  rcases hk with hk | hk | hk | hk
  ·exact v k (aH hk) t
  ·rcases q k hk with D | D
   ·exact v k (aG (aH D)) t
   ·omega
  ·exact v k (aG (aG (aH hk))) t
  ·exact v k (aG (aG (aG (l k hk).2))) t
 ·have Q:=L.trans (F.mono (S':=b.foot d) (fun j a=>by
   rcases a with a | a
   ·exact aH a
   ·exact aG (aG (aG (dU1 u a))))) (aJ _ _)
  have R:=Q.trans (p.mono (S':=b.foot d) (fun j a=>aG (aH a))) (aJ _ _);exact R.trans E (fun j a=>aG (by rw [show j=w.heap.size from a];exact lR7))
theorem pF0 (c m s:Nat) (b:BkS) (x:Ly) (w:World) (h:Bk w c m b) (hm:m+1<=900000) (l:s<2) (hx:x∈b.S s):
  Calls prog 120 #[E (some ⟨c,0,none⟩),U G x.o.id] w fun e W'=>e=Y (.tuple #[x.o.agg,.nilIface])/\∃b':BkS,(∃i,i<(b.S s).length/\lyAt (b.S s) i=x/\b'.S=upS b.S s (fJ0 i (b.S s)))/\Goes w W' c (m+1) b b':=by
 have H:=hid7 h;clear h;unfold Ord.agg;go_enter func120,ntmps120;go_wp2_with fail;refine (qX0 c m s b x _ (H.below (bel1 _ _) lR7) l hx).mono ?_;rintro e w1 ⟨rfl,Q⟩;unfold Ord.agg plV;have D:=aE0 (heap_alloc_new w _) Q lR7;have I:Hid (aL0 w w1):=aD0 (bel1 _ _) Q;clear Q;go_upto_region 4 with fail;have A:=bel2 w1 (R #[U G x.o.id,U G x.o.side,U G x.o.kind,U G x.o.price,U G x.o.qty] 92) (R #[U G x.slot,U G x.age,U G s] 242);have D:=aE0 D A lR7;have V:=eY0 w1 (R #[U G x.o.id,U G x.o.side,U G x.o.kind,U G x.o.price,U G x.o.qty] 92) (R #[U G x.slot,U G x.age,U G s] 242);have b7:w.heap.size<w1.heap.size+1:=Nat.lt_succ_of_le I.size;generalize (w1.alloc (R #[U G x.o.id,U G x.o.side,U G x.o.kind,U G x.o.price,U G x.o.qty] 92)).alloc (R #[U G x.slot,U G x.age,U G s] 242)=w2 at A D V ⊢;generalize w1.heap.size+1=pb at V b7 ⊢;have X:=hid7 (aD0 I A);clear A I;have n:Hid (Bk w2 c m b):=H.below X lR7;obtain ⟨i,r,B⟩:=dW1 hx;have m1:aC0 w2 c 1 (.map (some b.mb)):=aA0 (j:=1) n.at_.box rfl;obtain ⟨F,a5,a1,u⟩:=n.at_.map.del (H.ok.ok s l x hx).2.1 (tU1 H.ok l r B) 0;have O:=n.at_.mid.newMap u a1;have D:=aF0 D u (n.at_.map.ne D);have V:=aF0 V u (n.at_.map.ne V);have a8:Hid (Out (b.foot c) w F):=(aL X lR7).trans (u.mono (S':=b.foot c) (fun j z=>aG (aG (aH z)))) (aJ _ _);go_wp2_with fail;clear a5 m1 a1 u;obtain ⟨f,_,_⟩:=O.rowIs l;obtain ⟨g,q,hv⟩:=tS1 f o7;have k:=hid7 O;have M:=hid7 D;have p:=hid7 V;have C:Hid (F.ownsRow 0 240 2 (J (some ⟨g,0,none⟩) (b.S s).length q) (b.S s).length (hV (b.S s))):=by rw [hv] at f;exact f
 have HV:=hid7 hv
 have c0:g<w.heap.size:=by
  have h1:(vAt b.v0 b.v1 s).ownBlock=some g:=by rw [hv];rfl
  exact ((H.at_.mid.rowIs l).1.lt g h1).2
 have ng:∀{j:Nat} {vs:Array Value} {t:TypeId},bJ0 F j vs t->t≠240->¬(j=g):=fun {j vs t} z ht e=>aH0 C z ht (by rw [e];rfl)
 have N:Hid (∀w',Out (fun j=>j=g) F w'->(aC0 w' pb 1 (U G x.age)/\aC0 w' pb 2 (U G s)/\aC0 w' c (2+s) (J (some ⟨g,0,none⟩) (b.S s).length q)/\Out (fun j=>j=g) F w')):=fun w' T=>by
  have g1:=aF0 p T (ng p d7);have g2:=aF0 k.box T (ng k.box d7);exact ⟨aA0 (j:=1) g1 rfl,aA0 (j:=2) g1 rfl,by rw [<-HV.out];exact (nR0 g2 l).1,T⟩
 clear O D V f hv
 have b5:(b.S s).length<=1000:=by
  have h1:=(sI0 b.S [] l).2;have h2:=H.out.ok.most;omega
 have Z:=hid7 (tT1 H.ok l r B);have q1:(0:Int)<=(s:Int):=o7;have q2:(s:Int)<2:=o7;refine fE0 (fun w'=>aC0 w' pb 1 (U G x.age)/\aC0 w' pb 2 (U G s)/\aC0 w' c (2+s) (J (some ⟨g,0,none⟩) (b.S s).length q)/\Out (fun j=>j=g) F w') (fun i=>i == 15) k7 (N _ (aW0 (bL _ _))) (fun hHeld=>?_);refine tkL9 0 a7 ?_;refine tkL9 1 a7 ?_;refine tkL9 2 a7 ?_;refine tkL9 3 a7 ?_;refine tkL9 4 a7 ?_;refine tkL9 5 a7 ?_;refine tkL9 6 a7 ?_;refine tkL9 7 a7 ?_;refine tkL9 8 a7 ?_;refine tkL9 9 a7 ?_;refine tkL9 10 a7 ?_;refine tkL9 12 a7 ?_;refine tkL9 13 a7 ?_;refine aN0 (rs:=[11]) k7 s7 ?_;refine aG0.cons rfl (fun K P=>?_) aG0.nil;go_simp;refine (aA2 pb x.slot i g q x.age s (b.S s) _ (aU0 C (aF _ _).drew lR7) b5 r Z.out.1 Z.out.2 p).mono ?_;rintro e w6 ⟨rfl,a3,d⟩;dsimp only;have d:Out (fun j=>j=g) F w6:=aX0 (aW0 (bL _ _)) d;have b6:=nR0 (aF0 k.box d (ng k.box d7)) l;have e6:=b6.1;have f6:=b6.2;refine P.out _ _ (fun _=>N _ d) (fun hHeld=>?_);replace hHeld:=hHeld rfl;clear P K b6;refine aN0 (rs:=[14]) k7 s7 ?_;refine aG0.cons rfl (fun K P=>?_) aG0.nil;go_simp;refine P.out _ _ (fun _=>N _ d) (fun hHeld=>?_);replace hHeld:=hHeld rfl;clear P K;refine aN0 (rs:=[15]) k7 s7 ?_;refine aG0.cons rfl (fun K P=>?_) aG0.nil;go_simp;refine P.out _ _ (fun h=>by cases h) (fun _=>?_);refine gS0 k7 ?_ _;go_wp2_with fail;have y:(vAt b.v0 b.v1 s).ownBlock=some g:=by rw [HV.out];rfl
 obtain ⟨hG,hT⟩:=k.newRow l a3 (d.mono (fun j z=>by rw [show j=g from z];exact y)) (aH y);generalize w6.setCell ⟨c,2+s,none⟩ (J (some ⟨g,0,none⟩) (fJ0 i (b.S s)).length q)=w7 at hG hT ⊢;have hz:=lt_of_block M
 have n7:∀{j:Nat} {vs:Array Value} {t:TypeId},bJ0 F j vs t->t≠233->t≠240->¬(j=c\/(vAt b.v0 b.v1 s).ownBlock=some j):=fun {j vs t} z ht ht2 e=>by
  rcases e with e | e
  ·exact dQ0 z k.box ht e
  ·rw [y] at e;exact ng z ht2 (by injection e with e;exact e.symm)
 have a4:=aF0 M hT (n7 M d7 d7);have a2:=aF0 p hT (n7 p d7 d7);have L:=hid7 hG;have HT:=hid7 hT;have b1:=hid7 y;have b0:=hid7 a4;have a9:=hid7 a2;have na:∀j,aoB b.ab b.vs b.vf j->j<w.heap.size:=fun j z=>H.lt (aG (aH z))
 have a0:Hid (∀w',Out (fun j=>aoB b.ab b.vs b.vf j\/j=w.heap.size) w7 w'->(aC0 w' c 0 (E (some ⟨b.ab,0,none⟩))/\aC0 w' pb 0 (U G x.slot)/\aC0 w' pb 1 (U G x.age)/\Out (fun j=>aoB b.ab b.vs b.vf j\/j=w.heap.size) w7 w')):=fun w' T=>by
  have lb:c<w.heap.size:=H.lt (aH rfl)
  have g1:=aF0 L.box T (fun e=>by
   rcases e with e | e
   ·exact H.at_.notBox e
   ·omega)
  have g2:=aF0 a9 T (fun e=>by
   rcases e with e | e
   ·have:=na _ e;omega
   ·omega)
  exact ⟨aA0 (j:=0) g1 rfl,aA0 (j:=0) g2 rfl,aA0 (j:=1) g2 rfl,T⟩
 have W:=hid7 (H.ok.there s l x hx);have b3:b.rs.length<=1000000:=by have:=H.ok.so.small;have:=H.steps;omega
 have b4:b.fr.length<=b.rs.length:=by have:=H.ok.so.cnt;omega
 have a6:Hid (0<=x.age/\x.age<=1000000):=by
  have h1:=H.ok.so.ages x.slot;rw [W.out] at h1;have h2:=H.out.steps;have h3:=h1;show _/\_;omega
 have c1:=a0 w7 (bL _ _);clear a4 a2 hG hT y a3 d hHeld e6 f6 q1 q2
 go_region_held3 (fun w'=>aC0 w' c 0 (E (some ⟨b.ab,0,none⟩))/\aC0 w' pb 0 (U G x.slot)/\aC0 w' pb 1 (U G x.age)/\Out (fun j=>aoB b.ab b.vs b.vf j\/j=w.heap.size) w7 w')
  ((refine a0 _ ?_;(repeat' first | assumption | exact aW0 (bL _ _) | refine cU0 ?_ (aG rfl))))
  (first | (go_at_call 173;refine (dZ2 b.ab 100 b.vs b.vf b.rs b.fr x.slot x.o x.age _ (L.ar.below (aF _ _).drew lR7) W b3 b4 a6).mono ?_;rintro e w8 ⟨rfl,c2,b2,v,b8⟩;have v:Out (aoB b.ab b.vs b.vf) w7 w8:=aX0 (aW0 (bL _ _)) v;have b9:Out (fun j=>aoB b.ab b.vs b.vf j\/j=w.heap.size) w7 w8:=v.mono (fun _ h=>aH h);have a:=aF0 b0 v (fun e=>eP _ (na _ e));have y0:=aB0 (j:=0) a;have y1:=aB0 (j:=1) a;have y2:=aB0 (j:=2) a;have y3:=aB0 (j:=3) a;have y4:=aB0 (j:=4) a;have x0:=aA0 (j:=0) a rfl;have x1:=aA0 (j:=1) a rfl;have x2:=aA0 (j:=2) a rfl;have x3:=aA0 (j:=3) a rfl;have x4:=aA0 (j:=4) a rfl;unfold Ord.agg;clear a))
 go_wp2;refine bodyPost_ret (by simp [results,results120,go_sem,x0,x1,x2,x3,x4];try rfl) rfl ?_;refine ⟨rfl,_,⟨i,r,B,rfl⟩,aC2 H hm l hx r B a8 hz b1 HT L b2 v b8 ?_⟩;exact cU0 (cU0 (cU0 (cU0 (cU0 (bL _ _) rfl) rfl) rfl) rfl) rfl
end
end Go.Proofs.YtaelphbianmckaaGreatDoor
