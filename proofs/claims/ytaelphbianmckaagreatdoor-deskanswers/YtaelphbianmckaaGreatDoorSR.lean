/- DeskAnswers -/
import Derived.Test.YtaelphbianmckaaGreatDoorSQ
import Derived.Test.YtaelphbianmckaaGreatDoorCards
import Derived.Test.YtaelphbianmckaaGreatDoorTie
import Derived.Deep.DeepWitnessRowRef
open Go.Value renaming int->U, pointer->E, slice->J
open Go.IntKind renaming i64->G
open Go.Obj renaming cells->R
open Go.Ending renaming returned->Y
open Go.Proofs.Tryz
open Go.RowKit.Below renaming refl->aF
open Bool renaming and_true->hU
open Int renaming tmod->iE
open List renaming length_filter_le->cE, append_nil->dK, length_append->aN, take_length->bI, mem_map->bH, nodup_nil->eS
open Nat renaming zero_add->bT, zero_le->aO, le_trans->aI
open Or renaming inl->aH, inr->aG
open Go.Value.slice renaming injEq->aY
open Go.World renaming ownsRow_nil->aU, news_of_block->bJ, holding->eQ
set_option maxHeartbeats 8000000
set_option maxRecDepth 100000
namespace Go.Proofs.YtaelphbianmckaaGreatDoor
section
open Go.RowKit Go.Shelf
def iU2 (r:Int×List UInt8) (u12 u13:Value):Prop:=∃t:ByteArray,u12=.string t/\u13=U G r.1/\(r.1=0->t=baOf r.2)
theorem sF1 {P:List (List UInt8)} {m:Nat} (h:P.length=m+1):∃y,P[m]? = some y/\P.getLast? = some y:=by
 have h1:P[m]? = some (P[m]'o7):=List.getElem?_eq_getElem o7;refine ⟨_,h1,?_⟩;rw [List.getLast?_eq_getElem?,show P.length - 1=m by omega];exact h1
theorem kZ1:(baOf []).toList=[]:=by rw [ByteArray.toList_eq];rfl
theorem sG1 {y:List UInt8} (h:y≠[]):¬(baOf y).toList=[]:=by
 rw [ByteArray.toList_eq]
 simpa [baOf] using h
theorem cP1:((baOf []).toList == (⟨#[]⟩:ByteArray).toList)=true:=by rw [ByteArray.toList_eq,ByteArray.toList_eq];rfl
theorem fE1 {y:List UInt8} (h:y≠[]):((baOf y).toList == (⟨#[]⟩:ByteArray).toList)=false:=by
 rw [ByteArray.toList_eq,ByteArray.toList_eq];exact aC.2 (by simpa [baOf] using h)
def NuLp (w3:World) (A0:Bool) (ws:List ByteArray) (q:Nat) (u15 u16 u99:Value) (W:World):Prop:=∃(j:Nat) (okn:Bool) (l:List Int),j<=q/\u99=U G j/\u15=.bool (A0&& okn)/\NumsTo ws j okn l/\W.ownsRow w3.heap.size 3 1 u16 j (pW0 l)/\aL0 w3 W
theorem sH1 (t:ByteArray) (ht:t.size<=4000) (w:World) (hv:HsVars w) (hB:12<=w.heap.size):
  Calls prog 6 #[.string t] w fun e w'=>e=Y (.string (baOf (mM0 t.data.toList)))/\Below w.heap.size w w':=by
 obtain ⟨i0,o0,p7,p8,p9⟩:=info_parts infoStr;obtain ⟨i1,o1,p5,f0,f1⟩:=info_parts infoIntD;have HV:=hid7 hv;have h0:¬(20000:Int)<(t.size:Int):=o7;have k6:t.data.toList.length=t.size:=Array.length_toList
 have m2:mM0 t.data.toList=iR0 ((tP0 t.data.toList).map baOf) DsS.zero:=by
  unfold mM0;rw [aA o7]
 have j7:Hid _:=m2;have h3:=fD1 t.data.toList;have h4:0<(bH0 t.data.toList).length:=List.length_pos_iff.2 (kF0 _);have a5:Hid _:=xM1 t.data.toList
 have c8:Hid (∀y∈bH0 t.data.toList,y.length<=4000):=fun y O=>by
  rw [<-mC0] at O;have:=iG0 _ y O;omega
 have C:=qX1 10 t w o7 hv.ml;rw [mC0] at C;rw [k6] at h3;generalize hL:tP0 t.data.toList=Ls at j7 a5;generalize bH0 t.data.toList=P at C h3 h4 a5 c8;clear hv m2 k6 hL;go_enter func6,ntmps6;go_wp2_with fail;refine C.mono ?_;rintro e w1 ⟨rfl,m3,k7⟩;obtain ⟨m,hm⟩:∃m,P.length=m+1:=⟨P.length - 1,o7⟩;have b9:=hid7 m3;have i7:=hid7 k7;have hw:IntKind.i64.wrap ((P.length:Int) - 1)=(P.length:Int) - 1:=IntWalk.i64_in _ o7;have p2:(0:Int)<=(P.length:Int) - 1:=o7;have p3:(P.length:Int) - 1<(P.length:Int):=o7;have p4:((P.length:Int) - 1).toNat=m:=o7;have i4:(P.length:Int) - 1<=(P.length:Int):=o7;clear m3 k7 C;obtain ⟨y,f0,f1⟩:=sF1 hm
 have cY:w1.cell? ⟨w.heap.size,m,none⟩=some (.string (baOf y)):=by
  have:=b9.out m y f0
  rwa [bT] at this
 have d5:Hid (fC1 P=(decide (1<P.length)&& decide (y=[]))):=by
  show fC1 P=_;unfold fC1;rw [f1];simp
 have j1:=hid7 hm;have n4:=hid7 h4;clear f0 f1 hm;go_upto_region 4 with fail;go_cut [37] (fun u wc=>u=.bool (fC1 P)/\wc=w1)
 case first=>
  by_cases h1:1<P.length
  ·have d1:decide ((P.length:Int)>1)=true:=aE o7
   by_cases N:y=[]
   ·subst N;have p:=cP1;go_wp2_with fail;go_meet;exact ⟨by rw [d5.out];simp [h1,ByteArray.toList_eq,baOf],rfl⟩
   ·have p:=fE1 N;go_wp2_with fail;go_meet;exact ⟨by rw [d5.out];simp [N,ByteArray.toList_eq,baOf],rfl⟩
  ·have d1:decide ((P.length:Int)>1)=false:=aD o7;go_wp2_with fail;go_meet;exact ⟨by rw [d5.out];simp [h1],rfl⟩
 case rest=>
  obtain ⟨rfl,f⟩:=hcut;replace f:=f.symm;subst f;go_upto_if 37 with fail;go_cut [3] (fun u wc=>∃j8,u=J (some ⟨w.heap.size,0,none⟩) Ls.length j8/\wc=w1)
  case first=>
   cases hl:fC1 P with
   | true=>
    have HE:Hid (Ls.length=m):=by
     show _=_;rw [a5.out,aB hl,List.length_dropLast,j1.out];rfl
    clear hl;go_wp2_with fail;go_meet;exact ⟨_,by rw [HE.out],rfl⟩
   | false=>
    have HE:Hid (Ls.length=P.length):=by
     show _=_;rw [a5.out,aA (by rw [hl];decide)]
    clear hl;go_wp2_with fail;go_meet;exact ⟨_,by rw [HE.out],rfl⟩
  case rest=>
   obtain ⟨j8,rfl,f⟩:=hcut;replace f:=f.symm;subst f
   have d8:Hid (qI0 w1 w.heap.size 0 Ls/\Ls.length<=4001/\∀y∈Ls,y.length<=4000):=by
    show _/\_/\_;rw [a5.out];split
    ·refine ⟨fun j z hj=>b9.out j z ?_,by rw [List.length_dropLast];omega,fun z hz=>c8.out z (List.dropLast_subset _ hz)⟩;rw [List.getElem?_dropLast] at hj;split at hj
     ·exact hj
     ·cases hj
    ·exact ⟨b9.out,o7,c8.out⟩
   have g8:=d8.out.2.1;have n6:=hid7 d8.out.2.2;clear cY hw p2 p3 p4 i4 h3 h4 d5 j1;have o4:=@run_makeMap prog;obtain ⟨v1,v2,v3,v4,v5,v6,v7,v8,v9,t5,t6,t7,t8,t9,v0,w0,w4,T,f4,l3,r1,r2,r3,r4,r5,r6,r7,r8,r9,q0,q3,q4,q5,q6,q8,q9,r0,s5⟩:=wP1 w1;have g4:=hid7 f4;have f9:=hid7 l3;clear f4 l3;go_upto_region 8 with fail;clear r1 r2 r3 r4 r5 r6 r7 r8 r9 q0 q3 q4 q5 q6 q8 q9 r0 s5 o4;have hX:=heap_alloc_new T (R #[J none 0 0,U G 0,U G 0,U G 0,U G 0,U G 0,E none] 57);have e5:=bel1 T (R #[J none 0 0,U G 0,U G 0,U G 0,U G 0,U G 0,E none] 57);have i2:(T.alloc (R #[J none 0 0,U G 0,U G 0,U G 0,U G 0,U G 0,E none] 57)).heap.size=T.heap.size+1:=by simp
   generalize T.alloc (R #[J none 0 0,U G 0,U G 0,U G 0,U G 0,U G 0,E none] 57)=W0 at hX e5 i2 ⊢
   have g2:Hid (HsLp w w.heap.size w1.heap.size T.heap.size (T.heap.size+1) Ls 0 W0):=by
    have g1:=aD0 f9.out e5;have g0:=aD0 i7.out g1
    have q1:w.heap.size<w1.heap.size:=by
     obtain ⟨z,hz⟩:∃z,P[0]? = some z:=⟨P[0]'n4.out,List.getElem?_eq_getElem n4.out⟩;exact World.block_lt_of_cell? w1 ⟨w.heap.size,0+0,none⟩ (b9.out 0 z hz)
    have q2:=g4.out.lt;refine ⟨⟨⟨none,0,0,0,0,0,.nilIface,.nilIface,.nilIface⟩,hX,⟨Nat.lt_succ_self _,Nat.le_of_eq i2.symm⟩,fun h=>absurd h (Nat.lt_irrefl 0),fun M e=>by cases e⟩,fun j z hj=>aQ0 g1 (d8.out.1 j z hj),g4.out.same (e5.block _ q2),HV.out.below g0 hB,g0,aO _,?_⟩;have:=f9.out.size;omega
   clear hX e5 i2 g4 f9 b9 a5 c8 d8 i7;generalize w1.heap.size=mb at g2;generalize T.heap.size=p at g2 ⊢;go_wp2_with fail
   go_loopw [6,8,9,11,12,13,14,15,16,18,19,20,49] (fun u6 _ _ _ _ _ _ _ _ _ _ _ u49 wr=>∃k:Nat,k<=Ls.length/\u49=U G k/\u6=.string (baOf (outT Ls k))/\(outT Ls k).length<=30001*k/\HsLp w w.heap.size mb p (p+1) Ls k wr)
    (fun _ _ _ _ _ _ _ _ _ _ _ _ u49 _=>Ls.length - (intOf u49).toNat)
   case atStart=>exact ⟨0,aO _,rfl,rfl,aO _,g2.out⟩
   case round=>
    obtain ⟨k,hk,rfl,rfl,f3,k4⟩:=hrel;have a4:=hid7 k4;have b7:=hid7 f3;clear k4 f3
    by_cases e8:k<Ls.length
    ·obtain ⟨s,hs⟩:∃s,Ls[k]? = some s:=⟨Ls[k],List.getElem?_eq_getElem e8⟩;have HS:=hid7 hs;have A:=hid7 (n6.out s (List.mem_of_getElem? hs))
     have c0:wr.cell? ⟨w.heap.size,k,none⟩=some (.string (baOf s)):=by
      have:=a4.out.ln k s hs
      rwa [bT] at this
     have C:=qX1 32 (baOf s) wr (by rw [gE0];have:=A.out;omega) a4.out.va.ml;rw [lL0] at C
     have b8:Hid (fR0 (baOf s)=(gJ0 (dF0 32 s)).map baOf):=by
      have:=vZ1 (baOf s)
      rwa [lL0] at this
     have n9:(dF0 32 s).length<=4001:=by
      have h1:=pT0 32 (baOf s);have h2:=Lib.countB_le ⟨#[32]⟩ (Nat.le_refl 1) (baOf s).size (baOf s) lR7;rw [lL0] at h1;rw [gE0] at h2;have:=A.out;omega
     have j3:Hid (∀y∈dF0 32 s,y.length<=4000):=fun y O=>aI (iG0 s y O) A.out
     generalize dF0 32 s=Q at C b8 n9 j3;clear hs;go_wp2_with fail;refine C.mono ?_;rintro e w2 ⟨rfl,f5,k8⟩;have g5:=hid7 f5;have i8:=hid7 (a4.out.below k8 hB);clear f5 k8 C c0 a4;generalize wr.heap.size=qb at g5 ⊢;go_wp2_with fail;go_loopw [9,11,56] (fun u9 _ u56 W=>∃j:Nat,j<=Q.length/\u56=U G j/\W.ownsRow w2.heap.size 9 1 u9 (gJ0 (Q.take j)).length (strV (gJ0 (Q.take j)))/\Below w2.heap.size w2 W) (fun _ _ u56 _=>Q.length - (intOf u56).toNat)
     case atStart=>exact ⟨0,aO _,rfl,aU _ _ _ _,aF _ _⟩
     case round=>
      obtain ⟨j,hj,rfl,n,k9⟩:=hrel;obtain ⟨va,vc,rfl,_,_⟩:=bC0 n;have a7:=hid7 n;have D:=hid7 k9;clear n k9
      by_cases e6:j<Q.length
      ·obtain ⟨y,O⟩:∃y,Q[j]? = some y:=⟨Q[j],List.getElem?_eq_getElem e6⟩;have d4:Hid _:=sB1 Q O
       have cQ:wr.cell? ⟨qb,j,none⟩=some (.string (baOf y)):=by
        have:=aQ0 D.out (g5.out j y O)
        rwa [bT] at this
       have l4:(gJ0 (Q.take j)).length<=4001:=by
        have h1:=cE (fun x:List UInt8=>decide (x≠[])) (Q.take j);rw [List.length_take] at h1;unfold gJ0;omega
       clear O
       by_cases N:y=[]
       ·subst N;have l1:=kZ1
        have c9:Hid (gJ0 (Q.take (j+1))=gJ0 (Q.take j)):=by
         show _=_;rw [d4.out,aB rfl,dK]
        clear d4 l4;go_wp2_with fail;go_roundw
        case rel=>exact ⟨j+1,e6,by go_num,by rw [c9.out];exact a7.out,D.out⟩
        case measure=>first | (simp [intOf];omega) | omega
       ·have l1:=sG1 N;have l2:=aC.2 l1;have s8:((baOf y).toList != [])=true:=by rw [bne,l2];rfl
        have c9:Hid (gJ0 (Q.take (j+1))=gJ0 (Q.take j)++[y]):=by
         show _=_;rw [d4.out,aA N]
        clear d4 N;generalize gJ0 (Q.take j)=F at a7 c9 l4 ⊢;go_wp2_with (at_builtin;refine wpList_append_own_at _ rfl _ _ 49 rfl w2.heap.size 9 i0 (.string ⟨#[]⟩) 1 16 underlying49 o0 p7 p8 p9 rfl d7 _ F.length (strV F) rfl (a7.out.alloc _) ⟨wr.heap.size,0,none⟩ 1 1 [.string (baOf y)] rfl rfl (bJ (cs:=#[.string (baOf y)]) (t:=9) (fr:=(0,0)) (heap_alloc_new wr _)) (by simp [Value.oneCell']) (by unfold maxLen;omega) o7 (by have:=D.out.size;simp;omega) ?_;intro v' w6 a1 B _ _);go_roundw
        case rel=>
         refine ⟨j+1,e6,by go_num,?_,(D.out.alloc D.out.size _).grown B (by have:=D.out.size;simp;omega) (fun q hq=>(a7.out.lt q hq).1)⟩;rw [c9.out,aN];have:strV (F++[y])=strV F++[.string (baOf y)]:=by simp [strV]
         rw [this];exact a1
        case measure=>first | (simp [intOf];omega) | omega
      ·obtain rfl:j=Q.length:=o7
       have a6:Hid (wr.ownsRow w2.heap.size 9 1 (J va (gJ0 Q).length vc) (gJ0 Q).length (strV (gJ0 Q))):=by
        have:=a7.out;rw [bI] at this;exact this
       have a3:=hid7 (i8.out.below D.out hB)
       have e4:(gJ0 Q).length<=4001:=by
        have h1:=cE (fun x:List UInt8=>decide (x≠[])) Q;unfold gJ0;omega
       have d3:Hid (∀y∈gJ0 Q,y.length<=4000):=fun y O=>j3.out y (List.mem_filter.1 O).1
       rw [bI];clear a7 D i8 g5 e6 hj;generalize gJ0 Q=F at a6 b8 e4 d3 ⊢;generalize k2:F.length=L at a6 e4 ⊢;have d6:Hid (F.length=L):=k2;clear k2;generalize hH:gU0 ((Ls.take k).map baOf) DsS.zero=H at *;have HH:=hid7 hH;clear hH;go_upto_if 69 with fail;go_cut [12,13,14,15,16,18,19,20,49] from 49 to 137 (fun u12 u13 _ _ _ _ _ _ u49 wc=>u49=U G k/\iU2 (dC0 (baOf s) H).1 u12 u13/\HsLp w w.heap.size mb p (p+1) Ls (k+1) wc)
       case first=>
        by_cases g7:F=[]
        ·subst g7;obtain rfl:L=0:=d6.out.symm
         have V:Hid (dC0 (baOf s) H=((0,[111,107]),H)):=by
          show _=_;unfold dC0;rw [b8.out];rfl
         have X:Hid (HsLp w w.heap.size mb p (p+1) Ls (k+1) wr):=a3.out.idle HS.out (by have:=A.out;omega) (by rw [HH.out,V.out]) hB;go_wp2_with fail;go_meet;exact ⟨rfl,⟨_,rfl,by rw [V.out],fun _=>by rw [V.out];rfl⟩,X.out⟩
        ·obtain ⟨Z,ar,rfl⟩:∃Z ar,F=Z::ar:=by
          cases F with
          | nil=>exact absurd rfl g7
          | cons a ar=>exact ⟨a,ar,rfl⟩
         have g9:ar.length+1=L:=d6.out;obtain ⟨g,w7,e,_,_⟩:=a6.out.form (by omega);simp only [aY] at e;obtain ⟨rfl,_,rfl⟩:=e;obtain ⟨w3,i4⟩:∃w3,w3=wr:=⟨_,rfl⟩;subst i4;have g6:Hid (fR0 (baOf s)=baOf Z::ar.map baOf):=b8.out;have h8:=a6.out;rw [<-d6.out] at h8;have c1:=rI0 h8;have cA:w3.cell? ⟨g,0,none⟩=some (.string (baOf Z)):=by simpa using c1 0 Z rfl
         have i6:Hid (∀j y,(ar.map baOf)[j]? = some y->w3.cell? ⟨g,1+j,none⟩=some (.string y)):=fun j y hj=>by
          rw [List.getElem?_map] at hj;obtain ⟨u,hu,rfl⟩:=Option.map_eq_some_iff.1 hj;have:=c1 (j+1) u (by simpa using hu)
          rwa [bT,Nat.add_comm j 1] at this
         have p1:L<=vc:=by
          rcases a6.out.2 with ⟨e,_⟩ | ⟨g',s6,t0,e,_,_,o5,_⟩
          ·cases e
          ·simp only [aY] at e;rw [e.2.2];exact o5
         have h5:(baOf Z).size<=maxLen:=by
          rw [gE0];have:=d3.out Z (List.mem_cons_self ..);unfold maxLen;omega
         have l0:∀d,d<18->-1<=cE0 d/\cE0 d<=4:=d7
         obtain ⟨S,v,o3,o2,m0⟩:∃(S:Int) (v:Bool),(Instr.lookup 51 (.map (some mb)) (.string (baOf Z)) true).run prog w3=.ok (.tuple #[U G S,.bool v]) w3/\(-1<=S/\S<=4)/\((v=false/\jS0 Z=none)\/∃d,d<18/\v=true/\jS0 Z=some d/\S=cE0 d):=by
          cases hd:jS0 Z with
          | none=>exact ⟨0,false,a3.out.mn.look_no h5 (by rw [lL0];exact hd),o7,aH ⟨rfl,rfl⟩⟩
          | some d=>exact ⟨cE0 d,true,a3.out.mn.look_yes h5 (by rw [lL0];exact hd),l0 d (fH0 hd).1,aG ⟨d,(fH0 hd).1,rfl,rfl,rfl⟩⟩
         have j2:Hid ((v=false/\jS0 Z=none)\/∃d,d<18/\v=true/\jS0 Z=some d/\S=cE0 d):=m0
         have m4:∀y∈ar.map baOf,y.size<=1000000:=fun y O=>by
          obtain ⟨u,hu,rfl⟩:=bH.1 O;have:=d3.out u (List.mem_cons_of_mem _ hu);rw [gE0];omega
         have f2:Hid (∀y∈ar.map baOf,y.size<=1000000):=m4;have m6:(ar.map baOf).length=ar.length:=by simp
         have a8:Hid ((ar.map baOf).length=ar.length):=m6;have K:Hid (ar.length+1=L):=g9;clear g7 a6 b8 c1 h5 l0 m0 d3 m4 m6 h8 d6;generalize ar.map baOf=ws at g6 i6 f2 a8;generalize ar.length=q at a8 K g9;have d0:decide ((L:Int)>0)=true:=aE (by omega);have d1:(0:Int)<(L:Int):=by omega
         have d2:0<L:=o7;have t1:=e4;clear g9 e4;go_upto_region 22 with fail;go_cut [15,49] from 49 to 137 (fun u15 u49 wc=>u15=.bool (okF v S L)/\u49=U G k/\wc=w3)
         case first=>
          have w1:IntKind.i64.wrap (S+1)=S+1:=IntWalk.i64_in _ o7;have q2:iE (L:Int) 2=(L:Int) % 2:=Int.tmod_eq_emod_of_nonneg o7;cases v with
          | false=>
           go_wp2_with fail;go_meet;exact ⟨rfl,rfl,rfl⟩
          | true=>
           by_cases e1:(L:Int)=S+1
           ·have b1:=beq_iff_eq.2 e1;have HR:Hid (okF true S L=true):=by show _=_;unfold okF;simp [e1]
            clear e1;go_wp2_with fail;go_meet;exact ⟨by rw [HR.out],rfl,rfl⟩
           ·have b1:=aC.2 e1
            by_cases e2:S<0
            ·have b2:=aE e2
             by_cases e3:(L:Int) % 2=1
             ·have b3:(iE (L:Int) 2 == 1)=true:=by rw [q2];exact beq_iff_eq.2 e3
              have HR:Hid (okF true S L=true):=by show _=_;unfold okF;simp [e2,e3]
              have f7:=hid7 (beq_iff_eq.2 e3);clear e1 e2 e3 q2;go_wp2_with fail;go_meet;exact ⟨by rw [HR.out];exact congrArg _ f7.out,rfl,rfl⟩
             ·have b3:(iE (L:Int) 2 == 1)=false:=by rw [q2];exact aC.2 e3
              have HR:Hid (okF true S L=false):=by show _=_;unfold okF;simp [e1,e3]
              have f7:=hid7 (aC.2 e3);clear e1 e2 e3 q2;go_wp2_with fail;go_meet;exact ⟨by rw [HR.out];exact congrArg _ f7.out,rfl,rfl⟩
            ·have b2:=aD e2;have HR:Hid (okF true S L=false):=by show _=_;unfold okF;simp [e1,e2]
             clear e1 e2 q2;go_wp2_with fail;go_meet;exact ⟨by rw [HR.out],rfl,rfl⟩
         case rest=>
          obtain ⟨rfl,rfl,f⟩:=hcut;replace f:=f.symm;subst f;generalize j9:okF v S L=A0;have f6:Hid (okF v S L=A0):=j9;clear j9 o3 o2 d0;go_upto_region 24 with fail;go_cut [97,98,99,49] from 49 to 137 (fun u97 u98 u99 u49 wc=>u49=U G k/\u98=U G q/\u99=U G 0/\wc=w3/\∃o c,u97=J (some ⟨g,o,none⟩) q c/\(q=0\/o=1))
          case first=>
           have x1:(1:Int)<=(L:Int):=o7;have x2:((L:Int) - 1).toNat=q:=by have:=K.out;omega
           have x3:L - 1=q:=by have:=K.out;omega
           have s9:Hid ((L:Int) - 1=q):=by have:=K.out;show _=_;omega
           by_cases p0:vc=1
           ·have n5:Hid (q=0):=by have:=K.out;show _=_;omega
            subst p0;go_wp2_with fail;go_meet;exact ⟨rfl,by first | rfl | (rw [x3]) | simp [x3],rfl,rfl,_,_,by first | rfl | rw [x3],aH n5.out⟩
           ·have t4:¬(vc - 1=0):=o7;go_wp2_with fail;go_meet;exact ⟨rfl,by first | rfl | (rw [x3]) | simp [x3],rfl,rfl,_,_,by first | rfl | rw [x3],aG rfl⟩
          case rest=>
           obtain ⟨rfl,rfl,rfl,f,o,c,rfl,ho⟩:=hcut;replace f:=f.symm;subst f;have n3:Hid (q=0\/o=1):=ho;clear ho d1 d2 p1;have hq:q<=4000:=by have:=K.out;omega
           have n1:=hid7 cA;clear cA;go_wp2_with fail;go_loopw [15,16,18,19,20,99] (fun u15 u16 _ _ _ u99 W=>NuLp w3 A0 ws q u15 u16 u99 W) (fun _ _ _ _ _ u99 _=>q - (intOf u99).toNat)
           case atStart=>exact ⟨0,true,[],aO _,rfl,by rw [hU],NumsTo.start ws,aU _ _ _ _,aF _ _⟩
           case round=>
            obtain ⟨j,b5,l,hj,rfl,rfl,hN,n,b0⟩:=hrel;obtain ⟨na,nc,rfl⟩:=iS0 n;have HN:Hid (NumsTo ws j b5 l):=hN;have j5:=hid7 n;have f8:=hid7 b0;have I:=hid7 (a3.out.below b0 hB);clear hN n b0
            by_cases l6:j<q
            ·obtain ⟨y,O⟩:∃y,ws[j]? = some y:=⟨ws[j]'(by rw [a8.out];exact l6),List.getElem?_eq_getElem _⟩
             have o8:o=1:=by
              rcases n3.out with e | e
              ·omega
              ·exact e
             subst o8;have cY:=aQ0 f8.out (i6.out j y O);have p6:=f2.out y (List.mem_of_getElem? O);have HY:=hid7 O;clear O;go_wp2_with fail;refine (wS1 y wr p6 I.out.va.ds (aI hB I.out.bl.size)).mono ?_;rintro e w5 ⟨⟨z,b,rfl,m7⟩,h6⟩;have n2:=hid7 (HN.out.next HY.out m7);have c7:=hid7 (aD0 f8.out h6);have j4:Hid (w5.ownsRow w3.heap.size 3 1 (J na j nc) j (pW0 l)):=aU0 j5.out h6 lR7;clear m7 h6 cY;generalize a9:(A0&& b5)=A1;have i5:=hid7 a9;clear a9;go_upto_region 28 with fail;go_cut [15,99] from 99 to 116 (fun u15 u99 wc=>u15=.bool (A1&& b)/\u99=U G j/\wc=w5)
             case first=>
              cases A1 <;> cases b <;> (go_wp2_with fail;go_meet;exact ⟨rfl,rfl,rfl⟩)
             case rest=>
              obtain ⟨rfl,rfl,f⟩:=hcut;replace f:=f.symm;subst f;have m8:Hid ((A1&& b)=(A0&& (b5&& b))):=by show _=_;rw [<-i5.out,Bool.and_assoc]
              have t3:j<=4001:=o7;clear i5;go_wp2_with (at_builtin;refine wpList_append_own_at _ rfl _ _ 59 rfl w3.heap.size 3 i1 (U G 0) 1 8 underlying59 o1 p5 f0 f1 rfl d7 _ j (pW0 l) rfl (j4.out.alloc _) ⟨w5.heap.size,0,none⟩ 1 1 [U G z] rfl rfl (bJ (cs:=#[U G z]) (t:=3) (fr:=(0,0)) (heap_alloc_new w5 _)) (by simp [Value.oneCell']) (by unfold maxLen;omega) o7 (by have:=c7.out.size;simp;omega) ?_;intro v' w6 a1 B _ _);go_roundw
              case rel=>
               refine ⟨j+1,b5&& b,l++[z],l6,by go_num,by rw [m8.out],n2.out,?_,(c7.out.alloc c7.out.size _).grown B (by have:=c7.out.size;simp;omega) (fun q hq=>(j4.out.lt q hq).1)⟩;have:pW0 (l++[z])=pW0 l++[U G z]:=by simp [pW0]
               rw [this];exact a1
              case measure=>first | (simp [intOf];omega) | omega
            ·obtain rfl:j=q:=o7;have cA:=aQ0 f8.out n1.out;have b4:l.length=j:=HN.out.len;have i3:ws.take j=ws:=by rw [<-a8.out,bI]
             cases hA:(A0&& b5) with
             | true=>
              obtain ⟨a9,k0⟩:=Bool.and_eq_true_iff.1 hA
              have a2:gD0 ws=some l:=by
               have:=HN.out.yes k0
               rwa [i3] at this
              rcases j2.out with ⟨e,_⟩ | ⟨d,hd,c5,c2,e7⟩
              ·have:=f6.out;rw [e,gX2,a9] at this;cases this
              ·have c3:kT0 (cE0 d) l.length=true:=by
                have:=f6.out;rw [c5,e7,<-K.out,sC1 hd,a9] at this;rw [b4];exact this
               have m5:=(fH0 c2).2
               have c4:dC0 (baOf s) H=if mayD (iQ0 d) H=false then ((6,[]),H) else aZ0 d l H:=by
                rw [wH0 g6.out];have e1:jS0 (baOf Z).data.toList=some d:=by rw [lL0];exact c2
                rw [e1];dsimp only;rw [a8.out,<-b4,aA (by rw [c3];decide),a2]
               obtain ⟨x,hx⟩:=I.out.is;rw [HH.out] at hx
               have m1:H.rs.length<=10000:=by
                have:=I.out.rl
                rwa [HH.out] at this
               have l5:p<w3.heap.size:=by
                have:=a3.out.ps;omega
               have h9:=j5.out;rw [<-b4] at h9;have m9:=hid7 (eZ1 h9 l5 (oP0 ws a2))
               have k5:12<=p+1:=by
                have:=I.out.ps;omega
               have b6:Hid (Calls prog 16 #[E (some ⟨p,0,none⟩),.string (baOf Z),J na j nc] wr fun e w'=>cF0 wr w' (p+1) p k (dC0 (baOf s) H) e):=by
                show Calls _ _ _ _ _;rw [c4,m5,<-b4];cases hmay:mayD (iQ0 d) H with
                | false=>
                 rw [aB rfl];exact hsNo d hd na nc l (p+1) p k x H wr hx hmay
                | true=>
                 rw [aA d7];exact gV2 d hd na nc l (p+1) p k x H wr hx m9.out c3 hmay o7 m1 I.out.va k5 o7
               clear c4 m5 c3 a2 c2 e7 c5 a9 k0 hA hx m1 l5 h9 k5 i3 b4 hd;go_wp2_with fail;refine b6.out.mono ?_;rintro e w6 ⟨⟨tx,rfl,o9⟩,l8,x6,k1⟩;have j0:Hid (HsLp w w.heap.size mb p (p+1) Ls (k+1) w6):=I.out.next HS.out (by have:=A.out;omega) l8 (x':=x6) (by rw [HH.out];exact k1) hB;clear l8 k1 cA b6;go_wp2_with fail;go_meet;exact ⟨rfl,⟨tx,rfl,rfl,o9⟩,j0.out⟩
             | false=>
              have V:Hid (dC0 (baOf s) H=((3,[]),H)):=by
               refine sD1 g6.out ?_;rw [lL0];cases c5:b5 with
               | false=>exact aG (aG (HN.out.no c5))
               | true=>
                rw [c5,hU] at hA;rcases j2.out with ⟨_,e⟩ | ⟨d,hd,l9,c2,e7⟩
                ·exact aH e
                ·have:=f6.out;rw [l9,e7,<-K.out,sC1 hd,hA] at this;exact aG (aH ⟨d,c2,by rw [a8.out];exact this⟩)
              have X:Hid (HsLp w w.heap.size mb p (p+1) Ls (k+1) wr):=I.out.idle HS.out (by have:=A.out;omega) (by rw [HH.out,V.out]) hB;clear hA b4 i3 cA;go_wp2_with fail;go_meet;exact ⟨rfl,⟨_,rfl,by rw [V.out],fun e=>absurd e (by rw [V.out];exact (by decide:¬((3:Int)=0)))⟩,X.out⟩
       case rest=>
        obtain ⟨rfl,⟨tt,rfl,rfl,e9⟩,g8⟩:=hcut;have X:=hid7 g8;have i:Hid _:=sE1 HS.out;rw [HH.out] at i
        have d9:(ansT (dC0 (baOf s) H).1).length<=30000:=by
         have:=iB1 (a3.out.plain o7) (baOf s)
         rwa [HH.out] at this
        have t2:(outT Ls k).length<=200000000:=by
         have:=b7.out;have:30001*k<=30001*4001:=Nat.mul_le_mul_left _ o7;omega
        have j6:=hid7 (oQ0 (kY1 (baOf s) H));generalize hR:(dC0 (baOf s) H).1=r at e9 d9 i j6 ⊢;clear hR g8
        by_cases N:r.1=0
        ·have c6:ansT r=r.2:=by unfold ansT;rw [aB N]
         obtain rfl:=e9 N;rw [c6] at i d9;have s1:=gE0 r.2;have s2:=gE0 (outT Ls k)
         have s3:(baOf r.2++(⟨#[10]⟩:ByteArray)).size<=30001:=by
          rw [ByteArray.size_append,s1];show _+1<=_;omega
         have HE:Hid (baOf (outT Ls k)++(baOf r.2++(⟨#[10]⟩:ByteArray))=baOf (outT Ls (k+1))):=by
          show _=_;rw [i.out,<-pX0,<-pX0];rfl
         have k3:(outT Ls (k+1)).length<=30001*(k+1):=by
          rw [i.out,aN,aN];have:=b7.out;have:([10]:List UInt8).length=1:=rfl;omega
         have g3:=hid7 k3;rw [N];clear N e9 c6 k3 i;go_wp2_with fail;go_roundw
         case rel=>exact ⟨k+1,e8,by go_num,by rw [HE.out],g3.out,X.out⟩
         case measure=>first | (simp [intOf];omega) | omega
        ·have c6:ansT r=errT r.1:=by unfold ansT;rw [aA N]
         rw [c6] at i d9;have h7:=j6.out;have o6:(r.1 != 0)=true:=by simpa using N
         have l7:(r.1 == 0)=false:=by simpa using N
         clear e9 c6 N;generalize n8:r.1=e0 at h7 o6 l7 i d9 ⊢;clear n8;have n7:=hid7 X.out.va.ds.tab;go_wp2_with fail;refine (nG0 wc [e0] (fun z hz=>by rw [List.mem_singleton.1 hz];exact h7) s7 s7 n7.out).mono ?_;rintro e w5 ⟨rfl,b0⟩;have i9:=hid7 (X.out.below b0 hB);have s0:=hZ1 h7;have s1:=gE0 (rowT [e0]);have s2:=gE0 (outT Ls k);have e1:rowT [e0]=Lib.itoa e0:=by simp [rowT,Lib.join,List.intercalate]
         have s3:((⟨#[101,114,114,111,114,32]⟩:ByteArray)++baOf (rowT [e0])).size<=30000:=by
          rw [ByteArray.size_append,s1];show 6+_<=_;omega
         have s4:((⟨#[101,114,114,111,114,32]⟩:ByteArray)++baOf (rowT [e0])++(⟨#[10]⟩:ByteArray)).size<=30001:=by
          rw [ByteArray.size_append];show _+1<=_;omega
         have HE:Hid (baOf (outT Ls k)++((⟨#[101,114,114,111,114,32]⟩:ByteArray)++baOf (rowT [e0])++(⟨#[10]⟩:ByteArray))=baOf (outT Ls (k+1))):=by
          show _=_;rw [i.out,e1,<-pX0,<-pX0];unfold errT;rw [<-pX0];rfl
         have g3:Hid ((outT Ls (k+1)).length<=30001*(k+1)):=by
          show _<=_;rw [i.out,aN,aN];have:=b7.out;have:([10]:List UInt8).length=1:=rfl;omega
         clear b0 i e1;go_wp2_with fail;go_roundw
         case rel=>exact ⟨k+1,e8,by go_num,by rw [HE.out],g3,i9⟩
         case measure=>first | (simp [intOf];omega) | omega
    ·obtain rfl:k=Ls.length:=o7
     have HE:Hid (baOf (outT Ls Ls.length)=baOf (mM0 t.data.toList)):=by
      show _=_;unfold outT;rw [bI,j7.out]
     have n0:=hid7 a4.bl;clear e8 a4;go_wp2_with fail;go_ret;exact ⟨by rw [HE.out];rfl,n0⟩
theorem cQ1 {t:ByteArray} (h:20000<t.size):mM0 t.data.toList=[101,114,114,111,114,32,52,10]:=by
 have e:t.data.toList.length=t.size:=Array.length_toList;unfold mM0;rw [aB o7];decide +kernel
theorem uR0 (t:ByteArray) (h1:20000<t.size) (b:t.size<=30000) (w:World):
  Calls prog 6 #[.string t] w fun e w'=>e=Y (.string (baOf (mM0 t.data.toList)))/\Below w.heap.size w w':=by
 have a:Hid (baOf (mM0 t.data.toList)=⟨#[101,114,114,111,114,32,52,10]⟩):=by show _=_;rw [cQ1 h1];rfl
 have k1:(20000:Int)<(t.size:Int):=o7;go_enter func6,ntmps6;go_wp2_with fail;go_ret;exact ⟨by rw [a.out];rfl,aF _ _⟩
theorem uS0 (t:ByteArray) (h1:20000<t.size) (g:t.size<=30000) (w:World) (b:DsVars w):
  Calls prog 5 #[.string t] w fun e w'=>e=Y (.string (baOf (mM0 t.data.toList)))/\Below w.heap.size w w':=by
 refine (callsIn_wide (n:=4)).1 ?_;refine callsIn_of_wp_marks func5 rfl trivial ?_ rfl;simp only [ntmps5,List.size_toArray,List.length_cons,List.length_nil,Nat.reduceAdd,Nat.reduceSub,Array.replicate_succ,Array.replicate_zero,List.push_toArray,List.append_toArray,List.nil_append,List.cons_append];have d:Hid (baOf (errT 4)++(⟨#[10]⟩:ByteArray)=baOf (mM0 t.data.toList)):=by show _=_;rw [cQ1 h1];decide +kernel
 have k1:(20000:Int)<(t.size:Int):=o7;have f:=hid7 b;clear b
 gi_wp2_with fail
 refine ⟨trivial,?_⟩;refine (callsIn_wide.2 (qQ1 4 w ⟨d7,d7⟩ f.out.tab)).mono ?_;rintro e w1 ⟨rfl,a⟩;have c:=hid7 a;have i:(baOf (errT 4)).size=7:=by decide +kernel
 clear a
 gi_wp2_with fail
 refine ⟨_,results_tmp rfl _ _ _,?_⟩;exact ⟨by rw [<-d.out];rfl,c.out⟩
theorem lA1 (t:ByteArray) (w:World) (o:HsVars w) (k:12<=w.heap.size) (g:t.size<=4000\/(20000<t.size/\t.size<=30000)):
  Calls prog 4 #[.string t] w fun e w'=>e=Y (.bool true)/\Below w.heap.size w w':=by
 have n:=hid7 o
 have m:Hid (∀V,DsVars V->12<=V.heap.size->Calls prog 5 #[.string t] V fun e w'=>e=Y (.string (baOf (mM0 t.data.toList)))/\Below V.heap.size V w'):=fun V h1 j=>by
  rcases g with h | ⟨h,f⟩
  ·exact sA1 t h V h1 j
  ·exact uS0 t h f V h1
 have l:Hid (∀V,HsVars V->12<=V.heap.size->Calls prog 6 #[.string t] V fun e w'=>e=Y (.string (baOf (mM0 t.data.toList)))/\Below V.heap.size V w'):=fun V h1 j=>by
  rcases g with h | ⟨h,f⟩
  ·exact sH1 t h V h1 j
  ·exact uR0 t h f V
 generalize mM0 t.data.toList=X at m l;clear o;have s:((baOf X).toList == (baOf X).toList)=true:=beq_self_eq_true _;go_enter func4,ntmps4;go_upto_region 1 with fail;go_cut [15] (fun u wc=>u=.bool false/\wc=w)
 case first=>
  rcases g with h | ⟨h,f⟩
  ·have p:decide ((t.size:Int)>4000)=false:=aD o7;have q:decide ((t.size:Int)>30000)=false:=aD o7;go_wp2_with fail;go_meet;exact ⟨rfl,rfl⟩
  ·have p:decide ((t.size:Int)>4000)=true:=aE o7;have r:decide ((t.size:Int)<=20000)=false:=aD o7;have q:decide ((t.size:Int)>30000)=false:=aD o7;go_wp2_with fail;go_meet;exact ⟨rfl,rfl⟩
 case rest=>
  obtain ⟨rfl,b⟩:=hcut;replace b:=b.symm;subst b;clear g;go_wp2_with fail;refine (m.out w n.out.ds k).mono ?_;rintro e w1 ⟨rfl,c⟩;have a:=hid7 c;clear c;go_wp2_with fail;refine (l.out w1 (n.out.below a.out k) (aI k a.out.size)).mono ?_;rintro e v ⟨rfl,d⟩;have i:=hid7 (aD0 a.out d);clear d;go_wp2_with fail;go_ret;exact ⟨by first | rfl | simp,i.out⟩
theorem cR1 (t:ByteArray) (w:World) (c:(4000<t.size/\t.size<=20000)\/30000<t.size) (g:t.size<=4611686018427387903):
  Calls prog 4 #[.string t] w fun e w'=>e=Y (.bool true)/\Below w.heap.size w w':=by
 go_enter func4,ntmps4;rcases c with ⟨h,f⟩ | h
 ·have a:decide ((t.size:Int)>4000)=true:=aE o7;have b:decide ((t.size:Int)<=20000)=true:=aE o7;go_wp2_with fail;go_ret;exact ⟨rfl,aF _ _⟩
 ·have a:decide ((t.size:Int)>4000)=true:=aE o7;have b:decide ((t.size:Int)<=20000)=false:=aD o7;have d:decide ((t.size:Int)>30000)=true:=aE o7;go_wp2_with fail;go_ret;exact ⟨rfl,aF _ _⟩
theorem gSpc:prog.globalNamed "strings.asciiSpace" = some 0:=k7
theorem tSpc:(prog.globals[0]?).map (·.type)=some 151:=k7
theorem xN1 {w:World} (h:w.var? prog "strings.asciiSpace" = some (Lib.asciiSpaceTab.map fun z=>Value.int .u8 z).toArray):qW1 w:=by
 unfold World.var? at h;rw [gSpc] at h;simp only [Option.bind_some] at h;split at h
 ·rename_i cs t f e;cases h;exact ⟨t,f,e⟩
 ·cases h
def laid9:List (String×DataW Unit):=[("math/bits.deBruijn32tab",Rows.laid_math_bits_deBruijn32tab),("math/bits.deBruijn64tab",Rows.laid_math_bits_deBruijn64tab),("internal/strconv.uint64pow10",Rows.laid_internal_strconv_uint64pow10),("unicode/utf8.acceptRanges",Rows.laid_unicode_utf8_acceptRanges),("strconv.ErrRange",Rows.laid_strconv_ErrRange),("strconv.ErrSyntax",Rows.laid_strconv_ErrSyntax),("unicode.White_Space",Rows.laid_unicode_White_Space),("strings.asciiSpace",Rows.laid_strings_asciiSpace),("unicode/utf8.first",Rows.laid_unicode_utf8_first)]
theorem lB1:(Rows.laid_strings_asciiSpace:DataW Unit)=Lib.tabData .u8 Lib.asciiSpaceTab:=k7
theorem yT0 {W:World} (h:laidMetH prog Rows.deskAnswersRow.laid W) (b:W.ShapedOpen prog):HsVars W:=by
 have j:laidMet prog laid9 W/\handlesMet prog rG0 W:=h;obtain ⟨ps,a,_⟩:=j.1;obtain ⟨g1,t1,B,T,p1,q1,O,s,v1,K,a,_⟩:=a;obtain ⟨g2,t2,C,U,p2,q2,P,t,v2,L,a,_⟩:=a;obtain ⟨g3,t3,D,V,p3,q3,m,c,x,g,a,_⟩:=a;obtain ⟨g4,t4,E,X,p4,q4,Q,u,v4,M,a,_⟩:=a;obtain ⟨g5,t5,F,Y,p5,q5,n,d,y,k,a,_⟩:=a;obtain ⟨g6,t6,G,Z,p6,q6,o,e,z,l,a,_⟩:=a;obtain ⟨g7,t7,H,f7,p7,r,R,v,v7,d7,a,_⟩:=a;obtain ⟨g8,t8,I,f8,p8,q8,p,f,A,i,a,_⟩:=a;obtain ⟨g9,t9,J,f9,p9,q9,S,w,v9,N,a,_⟩:=a;obtain rfl:=Option.some.inj (gPow.symm.trans m);obtain rfl:=Option.some.inj (gRan.symm.trans n);obtain rfl:=Option.some.inj (gSyn.symm.trans o);obtain rfl:=Option.some.inj (gSpc.symm.trans p);obtain rfl:=Option.some.inj (tPow.symm.trans c);obtain rfl:=Option.some.inj (tRan.symm.trans d);obtain rfl:=Option.some.inj (tSyn.symm.trans e);obtain rfl:=Option.some.inj (tSpc.symm.trans f);have q:laidMet prog [] W/\handlesMet prog rG0 W:=⟨⟨[],rfl,eS,fun _ _ h=>by cases h⟩,j.2⟩;refine ⟨⟨bZ1 q,qE1 ?_,qF1 gSyn underlying43 z l,qF1 gRan underlying43 y k⟩,mV0.s1_3 W b,xN1 ?_⟩
 ·rw [wE1] at g;rw [x,<-Lib.cells_of_tab underlying271 underlying185 k7 k7 g]
 ·rw [lB1] at i;rw [A,<-Lib.cells_of_tab underlying151 underlying5 k7 k7 i]
end
end Go.Proofs.YtaelphbianmckaaGreatDoor
namespace Go.Proofs.YtaelphbianmckaaGreatDoor.deskAnswers
open Go.ChangeShapes Go.WideShapes Go.ChangeAt Go.RowKit Go.Deep
open Go.ChangeMaps (open_string shut_string)
def lC1 (d:DataW Unit):Array Value:=match d with
 | .agg l=>(l.map fun x=>match x with | .lit (.int k n)=>Value.int k n | _=>undef).toArray
 | _=>#[]
def gY2 (d:DataW Unit):Array Value:=match d with
 | .agg l=>(l.flatMap fun x=>(lC1 x).toList).toArray
 | _=>#[]
def gZ2 (d:DataW Unit):Array Value:=match d with
 | .ptr (.agg (.slice l _::_))=>(l.flatMap fun x=>(lC1 x).toList).toArray
 | _=>#[]
def yU0 (g:Nat) (cs:Array Value) (h:Array Obj):Array Obj:=h.modify g fun
 | R _ t f=>R cs t f
 | o=>o
def jO0 (w:World):World:=
 let w1:=wD1 w
 let n:=w1.heap.size
 { w1 with heap:=yU0 5 (Lib.pow10Tab.map fun z=>Value.int .u64 z).toArray (yU0 9 (lC1 Rows.laid_math_bits_deBruijn32tab) (yU0 10 (lC1 Rows.laid_math_bits_deBruijn64tab) (yU0 8 (gY2 Rows.laid_unicode_utf8_acceptRanges) (yU0 0 (lC1 Rows.laid_strings_asciiSpace) (yU0 7 (lC1 Rows.laid_unicode_utf8_first)
  (yU0 4 #[.iface 326 (E (some ⟨n,0,none⟩))] (yU0 3 #[.iface 326 (E (some ⟨n+1,0,none⟩))] (yU0 1 #[E (some ⟨n+2,0,none⟩)] w1.heap))))))))
  ++#[R #[.string ⟨#[118,97,108,117,101,32,111,117,116,32,111,102,32,114,97,110,103,101]⟩] 328 (0,0),R #[.string ⟨#[105,110,118,97,108,105,100,32,115,121,110,116,97,120]⟩] 328 (0,0),R #[J (some ⟨n+3,0,none⟩) 7 7,J none 0 0,U G 2] 280 (0,0),R (gZ2 Rows.laid_unicode_White_Space) 283 (0,0)] }
theorem iV2 (a:Os):(DataW.laidRun prog ((jO0 (eQ prog a ⟨#[],#[],[]⟩)).forCall (fun _ _=>0) ⟨#[],#[.string ⟨#[]⟩],[]⟩).memory 12 (laid9.map (·.1))).map (·.1)=some laid9:=by kernel_rfl
def lD1 (l:List (Nat×Nat)):List MemPlace:=l.flatMap fun x=>MemPlace.row ⟨x.1,0,none⟩ x.2
theorem fF1:∀(l:List (Nat×Nat)) (x:MemPlace),x∈lD1 l->x.block∈l.map Prod.fst:=fun l x b=>by
 obtain ⟨y,c,a⟩:=List.mem_flatMap.1 b;unfold MemPlace.row at a;obtain ⟨i,_,rfl⟩:=bH.1 a;exact List.mem_map_of_mem c
theorem uM0:∀l:List (Nat×Nat),(l.map Prod.fst).Nodup->(lD1 l).Nodup
 | [],_=>eS
 | x::l,h=>by
  have h1:=List.nodup_cons.1 h;have e:lD1 (x::l)=MemPlace.row ⟨x.1,0,none⟩ x.2++lD1 l:=List.flatMap_cons ..;rw [e];refine List.nodup_append.2 ⟨?_,uM0 l h1.2,fun a g b k j=>?_⟩
  ·unfold MemPlace.row;refine List.Pairwise.map _ (fun a b d f=>d ?_) List.nodup_range;injection f with _ f;omega
  ·have c:=fF1 l b k;rw [<-j] at c;unfold MemPlace.row at g;obtain ⟨i,_,rfl⟩:=bH.1 g;exact h1.1 c
def sI1:List (Nat×Nat):=[(9,32),(10,64),(5,20),(8,32),(4,1),(12+5,1),(3,1),(12+6,1),(1,1),(12+7,3),(12+8,21),(0,256),(7,256)]
theorem iW2 (a:Os):(DataW.laidRun prog ((jO0 (eQ prog a ⟨#[],#[],[]⟩)).forCall (fun _ _=>0) ⟨#[],#[.string ⟨#[]⟩],[]⟩).memory 12 (laid9.map (·.1))).map (·.2)=some (lD1 sI1):=by kernel_rfl
theorem iX2 (a:Os):laidRowsB prog ((jO0 (eQ prog a ⟨#[],#[],[]⟩)).forCall (fun _ _=>0) ⟨#[],#[.string ⟨#[]⟩],[]⟩).memory (lD1 sI1)=true:=by kernel_rfl
theorem iY2 (a:Os):laidMet prog laid9 ((jO0 (eQ prog a ⟨#[],#[],[]⟩)).forCall (fun _ _=>0) ⟨#[],#[.string ⟨#[]⟩],[]⟩).memory:=by
 have h1:=iV2 a;have b:=iW2 a;cases hx:DataW.laidRun prog ((jO0 (eQ prog a ⟨#[],#[],[]⟩)).forCall (fun _ _=>0) ⟨#[],#[.string ⟨#[]⟩],[]⟩).memory 12 (laid9.map (·.1)) with
 | none=>rw [hx] at h1;cases h1
 | some x=>
  rw [hx] at h1 b;obtain ⟨l,c⟩:=x;simp only [Option.map_some,Option.some.injEq] at h1 b;subst h1 b;exact laidMet_of_run 12 hx (aE (uM0 _ d7)) (iX2 a)
theorem xO1 (a:Os):laidMetH prog Rows.deskAnswersRow.laid ((jO0 (eQ prog a ⟨#[],#[],[]⟩)).forCall (fun _ _=>0) ⟨#[],#[.string ⟨#[]⟩],[]⟩).memory:=
 laidMetH_of_parts (iY2 a) k7
theorem reads (a:Os) {H:Type} (enc:TypeId×Value->H):∃places,DataW.whole enc prog ((jO0 (eQ prog a ⟨#[],#[],[]⟩)).forCall (fun _ _=>0) ⟨#[],#[.string ⟨#[]⟩],[]⟩).memory f4.params.toList Rows.deskAnswersSpec.vars false #[Value.string ⟨#[]⟩].toList 8=some ([.lit (.string [])],[],places):=
 ⟨[],k7⟩
theorem contract (H:Type) (enc:TypeId×Value->H) (W:World) (base:Nat) (args:Array Value) (l m:List (DataW H)) (b:List MemPlace)
  (c:∀(j:Nat) t v,f4.params[j]? = some t->args[j]? = some v->Value.okWide prog W .any base t v)
  (r:DataW.Whole enc prog f4.params.toList Rows.deskAnswersSpec.vars false W args.toList l m b) (i:(DataW.weightsEach prog (f4.params.toList++(OpenSpec.ofChange Rows.deskAnswersSpec).bare.plain.varTypes prog) (l++m)).all (·<=reachBytes)=true) (g:W.ShapedOpen prog) (u:laidMetH prog Rows.deskAnswersRow.laid W):
  Calls prog 4 args W fun e W'=>∃v,e=Y v/\Rows.deskAnswersSpec.post enc prog f4 false true false false W args v W':=by
 have f:=r;obtain ⟨p,q,d,hV,rfl,y,z⟩:=r;have n:=d;rw [params4] at n c i;obtain ⟨v0,D,F,s,G,I,k,rfl,rfl,h0,C⟩:=trodAll_cons n;obtain ⟨rfl,rfl,rfl⟩:=trodAll_nil C;obtain rfl:args=#[v0]:=by cases args;simp_all
 obtain ⟨rfl,rfl⟩:=trodVars_none hV;obtain ⟨a,rfl,rfl,rfl,E⟩:=open_string underlying9 (c 0 9 v0 rfl rfl) h0;clear d
 have la:a.size<=4611686018427387903:=by
  have:=sized_string i (j:=0) (t:=9) (bytes:=a.data.toList) rfl rfl;have e:a.data.toList.length=a.size:=Array.length_toList;unfold reachBytes at this;omega
 have w:12<=W.heap.size:=by
  obtain ⟨o,_,A,_⟩:=g.2 12 (of_decide_eq_true k7) (of_decide_eq_true k7);exact Nat.le_of_lt (lt_of_block A)
 have x:Calls prog 4 #[.string a] W fun e w'=>e=Y (.bool true)/\Below W.heap.size W w':=by
  by_cases B:(4000<a.size/\a.size<=20000)\/30000<a.size
  ·exact cR1 a W B la
  ·exact lA1 a W (yT0 u g) w o7
 simp only [dK] at f;refine x.mono fun e W' ⟨he,hb⟩=>?_
 subst he;refine ⟨_,rfl,_,_,_,[],[],[],f,?_,?_,?_,hb.frame _,fun h=>by cases h⟩
 ·exact trodAll_cons_mk (shut_bool underlying4 _) trodAll_mk0
 ·exact trodAll_cons_mk (shut_string underlying9 E) trodAll_mk0
 ·rfl
theorem lifted (d:Os) (a:d.Started) (H:Type) (enc:TypeId×Value->H) (F:Stop.Interp):
  ReturnsInHanded {} checked d 4 .any ((OpenSpec.ofChange Rows.deskAnswersSpec).preRow enc prog f4 Rows.deskAnswersRow.domain false Rows.deskAnswersRow.laid) (((OpenSpec.ofChange Rows.deskAnswersSpec).at F).post enc prog f4 false true false false):=by
 obtain ⟨e,n⟩:=reads d enc
 refine returnsInHanded_of_row (C:=checked) (s:=OpenSpec.ofChange Rows.deskAnswersSpec) own a k7 func4
  (witness_row_atRef (enc:=enc) (C:=checked) false (jO0 (eQ prog d ⟨#[],#[],[]⟩)) #[.string ⟨#[]⟩] rfl k7 k7 k7
   (OpenSpec.preRow_of_cond 8 n k7 (fun k hk=>by cases hk) k7 (xO1 d))) ?_
 intro W base args i j b c m _ _ g l f _;exact contract H enc W base args i j b c m g f l
end Go.Proofs.YtaelphbianmckaaGreatDoor.deskAnswers
namespace Go.Proofs.YtaelphbianmckaaGreatDoor
end Go.Proofs.YtaelphbianmckaaGreatDoor
