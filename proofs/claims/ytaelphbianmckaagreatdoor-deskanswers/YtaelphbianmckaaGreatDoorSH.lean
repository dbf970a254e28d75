/- DeskAnswers -/
import Derived.Test.YtaelphbianmckaaGreatDoorSF
import Derived.Deep.Upon
import Derived.Stop.Asserts
open Go.Value renaming int->U, pointer->E, slice->J
open Go.IntKind renaming i64->G
open Go.Obj renaming cells->R
open Go.Ending renaming returned->Y
open Go.Proofs.Tryz
open Go.RowKit.Below renaming heap_setCell->cK, refl->aF
open Bool renaming eq_iff_iff->cR, or_eq_true->dR, and_eq_true->bE, false_eq_true->dI
open List renaming nil_append->bX, take_append_drop->dE, length_take->bF, drop_eq_nil_of_le->cI, length_append->aN, length_singleton->bD, take_length->bI
open Nat renaming add_zero->dV, le_trans->aI, zero_add->bT, lt_of_lt_of_le->aT, min_eq_left->fH, lt_or_ge->eE, le_of_lt->eU, zero_le->aO, le_of_eq->dA, zero_mul->eN
open Or renaming inr->aG, inl->aH
open Go.Proofs.YtaelphbianmckaaGreatDoor.Out renaming of_below->aL
open Go.Value.slice renaming injEq->aY
open Go.World renaming news_of_block->bJ, ownsRow_nil->aU
set_option maxHeartbeats 4000000
set_option maxRecDepth 100000
namespace Go.Proofs.YtaelphbianmckaaGreatDoor
variable {a:Act} {Q:Exit->Act->World->Prop} {now:Int} {p:Int×Int} {rs:List (Int×Int)} {b g:Nat} {o:Oper} {P:Program} {W w w1:World}
section
open Go.RowKit
def Lies (w:World) (ao:Option Addr) (m:Nat) (news:List Value):Prop:=(m=0/\news=[])\/∃ad,ao=some ad/\∀j u,news[j]? = some u->w.cell? (ad.add j)=some u
theorem uN0 (w:World) (t D:TypeId) (base:Nat) (e:TypeId) (i:TypeInfo) (z:Value) (d bytes:Nat) (r:P.underlying t=some (.slice e)) (hi:P.info? e=some i) (R:i.zero=some z)
  (j:i.size=d) (y:i.bytes=bytes) (C:z.cells.size=d) (B:0<d)
  (b n q:Nat) (xs:List Value) (f:w.ownsRow base e d (J (some ⟨b,0,none⟩) n q) n xs)
  (v:Option Addr) (m c:Nat) (news:List Value) (M:news.length=m*d) (Q:Lies w v m news) (h1:∀u∈news,u.oneCell'=true)
  (x:n+m<=maxLen) (l:(n+m)*bytes<=140737488355328) (o:base<=w.heap.size):
  ∃g k w',(Builtin.append_ #[t,t] D #[J (some ⟨b,0,none⟩) n q,J v m c]).run P w=.ok (J (some ⟨g,0,none⟩) (n+m) k) w'/\
   w'.ownsRow base e d (J (some ⟨g,0,none⟩) (n+m) k) (n+m) (xs++news)/\w.grownBy w' (some b)/\(g=b\/g=w.heap.size)/\g<w'.heap.size:=by
 by_cases N:0<m
 ·rcases Q with ⟨h0,_⟩ | ⟨s,rfl,L⟩
  ·omega
  ·obtain ⟨g,k,w',O,H,I,p,K⟩:=run_append_lies (P:=P) w t D base e i z d bytes r hi R j y C B _ n xs f s m c news M L h1 N x l o _ rfl;refine ⟨g,k,w',O,H,I,?_,K⟩;rcases p with p | p
   ·left;simpa [Value.ownBlock] using p.symm
   ·exact aG p
 ·obtain rfl:m=0:=o7;obtain rfl:news=[]:=List.eq_nil_of_length_eq_zero o7;obtain ⟨G,E,F,A,_⟩:=bO0 f;simp only [aY,true_and] at F;obtain ⟨_,rfl⟩:=F;refine ⟨b,q,w,?_,by rw [dV,List.append_nil];exact f,World.grownBy.refl _ _,aH rfl,?_⟩
  ·rw [dV]
   exact run_append_nothing w t t D e i r hi _ n q A _ (by
    rw [j];cases v with
    | none=>exact Src.ofNil (w:=w) (hk:=r) (c:=c)
    | some s=>exact Src.ofSlice (w:=w) (hk:=r) (a:=s) (n:=0) (c:=c) (news:=[]) s7 s7 s7)
  ·exact (f.lt b rfl).2
theorem kR0 (w:World) {K:Act->World->Prop} (s x:Operand) (t:TypeId)
  (H:o.op=.call { callee:=.builtin .append,args:=#[s,x],argTypes:=#[t,t] })
  (base:Nat) (e:TypeId) (i:TypeInfo) (z:Value) (d bytes:Nat) (M:P.underlying t=some (.slice e)) (hi:P.info? e=some i) (R:i.zero=some z)
  (l:i.size=d) (y:i.bytes=bytes) (B:z.cells.size=d) (A:0<d)
  (b n r:Nat) (xs:List Value) (L:a.eval s=J (some ⟨b,0,none⟩) n r) (p:w.ownsRow base e d (J (some ⟨b,0,none⟩) n r) n xs)
  (q:Option Addr) (m c:Nat) (news:List Value) (N:a.eval x=J q m c) (G:news.length=m*d) (O:Lies w q m news) (h1:∀u∈news,u.oneCell'=true)
  (v:n+m<=maxLen) (j:(n+m)*bytes<=140737488355328) (k:base<=w.heap.size)
  (h:∀g f w',w'.ownsRow base e d (J (some ⟨g,0,none⟩) (n+m) f) (n+m) (xs++news)->w.grownBy w' (some b)->(g=b\/g=w.heap.size)->g<w'.heap.size->K (a.put o.dst (J (some ⟨g,0,none⟩) (n+m) f)) w'):o.wp P a w K Q:=by
 obtain ⟨g,f,w',I,C,D,E,F⟩:=uN0 (P:=P) w t o.type base e i z d bytes M hi R l y B A b n r xs p q m c news G O h1 v j k;unfold Oper.wp execOp;simp only [H,resolve,invoke,builtin,Sem.run_bind,Sem.run_pure,Result.andThen_ok,List.map_toArray,List.map_cons,List.map_nil,L,N,I];exact h g f w' C D E F
theorem bA0 (w:World) {p:Array Oper} {K:Act->World->Prop} {E:Prop} (A:o.guard=none) (s x:Operand) (t:TypeId)
  (F:o.op=.call { callee:=.builtin .append,args:=#[s,x],argTypes:=#[t,t] })
  (base:Nat) (e:TypeId) (i:TypeInfo) (z:Value) (d bytes:Nat) (H:P.underlying t=some (.slice e)) (hi:P.info? e=some i) (M:i.zero=some z)
  (k:i.size=d) (y:i.bytes=bytes) (C:z.cells.size=d) (B:0<d)
  (b n r:Nat) (xs:List Value) (G:a.eval s=.slice (some ⟨b,0,none⟩) n r) (l:w.ownsRow base e d (.slice (some ⟨b,0,none⟩) n r) n xs)
  (q:Option Addr) (m c:Nat) (news:List Value) (I:a.eval x=.slice q m c) (D:news.length=m*d) (L:Lies w q m news) (h1:∀u∈news,u.oneCell'=true)
  (v:n+m<=maxLen) (f:(n+m)*bytes<=140737488355328) (j:base<=w.heap.size)
  (h:∀g cap w',w'.ownsRow base e d (.slice (some ⟨g,0,none⟩) (n+m) cap) (n+m) (xs++news)->w.grownBy w' (some b)->(g=b\/g=w.heap.size)->g<w'.heap.size->K (a.put o.dst (.slice (some ⟨g,0,none⟩) (n+m) cap)) w'):
  if Region.wanted o (yielded p a.tmps)=true then Oper.wp P o a w K Q else E:=by
 have J:Region.wanted o (yielded p a.tmps)=true:=by simp [Region.wanted,A]
 rw [aB J];exact kR0 w s x t F base e i z d bytes H hi M k y C B b n r xs G l q m c news I D L h1 v f j h
theorem Lies.of_row {w W:World} {base:Nat} {b:Option Addr} {a:Nat} {l:List Ord} (h:w.ownsRow base 92 5 (J b l.length a) l.length (oV l)) (e:Below w.heap.size w W):Lies W b l.length (oV l):=by
 cases l with
 | nil=>exact aH ⟨rfl,rfl⟩
 | cons o l=>
  obtain ⟨g,c,d,_,_⟩:=h.form s7;simp only [aY,true_and] at d;obtain ⟨rfl,rfl⟩:=d;exact aG ⟨_,rfl,eD1 h e⟩
theorem Lies.of_one {W:World} {b:Nat} {cs:Array Value} {t:TypeId} {m:Nat} (h:W.heap[b]? = some (R cs t (0,0))):Lies W (some ⟨b,0,none⟩) m cs.toList:=aG ⟨_,rfl,bJ h⟩
theorem jC0 {base:Nat} (h:Below w.heap.size w W) (a:base<=w.heap.size):base<=W.heap.size:=aI a h.size
theorem cQ0 (h:Below w.heap.size w W) (a:W.grownBy w1 (some b)) (c:w.heap.size<=b):Below w.heap.size w w1:=h.grown a h.size (fun k hk=>by injection hk with hk;omega)
theorem iB0 (h:Below w.heap.size w W) (c:g=b\/g=W.heap.size) (a:w.heap.size<=b):w.heap.size<=g:=by
 have:=h.size;rcases c with rfl | rfl
 ·exact a
 ·exact this
theorem eL0 {w2:World} (h:Below w.heap.size w w1) (h1:Below w1.heap.size w1 w2):Below w.heap.size w w2:=h.trans (h1.mono h.size)
theorem kS0 {d c:World} {base n a:Nat} {b:Spot} {v0:Value} {l l':List Ord} {xs:List Value} (i:BookIs d base b v0 l) (m:Below w.heap.size w d) (k:Below d.heap.size d c)
  (p:c.ownsRow base 92 5 (J (some ⟨g,0,none⟩) n a) n xs) (t:d.heap.size<=g) (o:n=l'.length) (q:xs=oV l'):
  BookIs (c.setCell ⟨b.bb,b.off,none⟩ (J (some ⟨g,0,none⟩) n a)) base b (J (some ⟨g,0,none⟩) n a) l'/\Out (·=b.bb) w (c.setCell ⟨b.bb,b.off,none⟩ (J (some ⟨g,0,none⟩) n a)):=by
 subst o q
 refine ⟨(i.below k lR7).put p (fun j f e=>by
  have r:g=j:=by simpa [Value.ownBlock] using f
  have s:=i.lim j e;omega),?_⟩
 have h1:Out (·=b.bb) c (c.setCell ⟨b.bb,b.off,none⟩ (J (some ⟨g,0,none⟩) l'.length a)):=⟨rfl,rfl,rfl,by simp,fun j _ f=>cK _ _ _ _ (fun e=>f e)⟩;exact (aL (m.trans (k.mono m.size)) lR7).trans h1 (Went.refl _ _)
theorem hR2 (base:Nat) (i:Spot) (v:Value) (l:List Ord) (o:Ord) (w:World) (h:BookIs w base i v l) (hl:l.length<=100) (a1:base<=w.heap.size):
  Calls prog 95 #[E (some ⟨i.bb,i.off,none⟩),o.agg] w
   fun e w'=>e=Y (U G (addN o l))/\∃v',BookIs w' base i v' (addL o l)/\Out (·=i.bb) w w':=by
 have W:=hid7 h
 have a:Hid (∀w',Below w.heap.size w w'->addN o l≠0->∃v',BookIs w' base i v' (addL o l)/\Out (·=i.bb) w w'):=fun w' I hn=>by
  unfold addL;rw [aA hn];exact ⟨v,W.out.below I lR7,aL I lR7⟩
 clear h;unfold Ord.agg;go_enter func95,ntmps95;go_wp2_with fail;refine (bkIn o.side 1 2 _).mono ?_;rintro e w1 ⟨rfl,rfl⟩;cases hs:(decide (1<=o.side)&& decide (o.side<=2)) with
 | false=>
  have Q:=hid7 hs;clear hs;go_wp2_with fail;go_ret;have k:=wK0 (l:=l) (aH Q.out);exact ⟨by rw [k];rfl,a.out _ ((aF _ _).alloc lR7 _) (by rw [k];decide)⟩
 | true=>
  have Q:=hid7 hs;clear hs
  by_cases y:o.id<1
  ·have a7:=aE y;go_wp2_with fail;go_ret;have k:=wK0 (l:=l) (aG y);exact ⟨by rw [k];rfl,a.out _ ((aF _ _).alloc lR7 _) (by rw [k];decide)⟩
  ·go_upto_if 16 with fail;go_cut [17] (fun _ wc=>Below w.heap.size w wc/\wc.heap[w.heap.size]? = some (R #[U G (lieO o).id,U G (lieO o).side,U G (lieO o).kind,U G (lieO o).price,U G (lieO o).qty] 92 (0,0)))
   case first=>
    by_cases hk:o.kind=2
    ·have a3:=beq_iff_eq.2 hk;have X:Hid (lieO o={ o with price:=1 }):=by show lieO o=_;unfold lieO;rw [aB hk]
     clear hk;go_wp2_with fail;go_meet;exact ⟨(aF _ _).alloc lR7 _,by rw [X.out];exact heap_alloc_new w _⟩
    ·have a3:=aC.2 hk;have X:Hid (lieO o=o):=by show lieO o=_;unfold lieO;rw [aA hk]
     clear hk;go_wp2_with fail;go_meet;exact ⟨(aF _ _).alloc lR7 _,by rw [X.out];exact heap_alloc_new w _⟩
   case rest=>
    obtain ⟨I,s⟩:=hcut;have HI:=hid7 (iT0 o);have HN:Hid (fA0 (lieO o).price (lieO o).qty=false->addN o l=2):=fun m=>uV0 Q.out o7 m
    have HR:Hid (fA0 (lieO o).price (lieO o).qty=true->addN o l=if 0<=idxO o.id l then 9 else if 100<=l.length then 12 else 0):=fun m=>nI0 Q.out o7 m
    have HL:Hid (addN o l=0->addL o l=l++[lieO o]):=fun m=>by unfold addL;rw [aB m]
    generalize lieO o=p at s HI HN HR HL;have H:=hid7 I;have Z:Hid _:=s;have z0:=bG0 (j:=0) s rfl;have z1:=bG0 (j:=1) s rfl;have z2:=bG0 (j:=2) s rfl;have z3:=bG0 (j:=3) s rfl;have z4:=bG0 (j:=4) s rfl;clear s I y;go_wp2_with fail;refine (eC1 p.price p.qty _).mono ?_;rintro e w1 ⟨rfl,hw⟩;subst hw;cases hr:fA0 p.price p.qty with
    | false=>
     have k:=HN.out hr;have A:=hid7 k;clear hr k;go_wp2_with fail;go_ret;exact ⟨by rw [A.out];rfl,a.out _ H.out (by rw [A.out];decide)⟩
    | true=>
     have A:Hid _:=HR.out hr;clear hr;go_wp2_with fail;refine (dN1 base i v l p.id _ (W.out.below H.out lR7) o7).mono ?_;rintro e f ⟨rfl,u⟩;have c:Hid _:=(u.block _ (lt_of_block Z.out)).trans Z.out;have g:=hid7 (H.out.trans (u.mono H.out.size));rw [HI.out];have z0:=bG0 (j:=0) c.out rfl;have z1:=bG0 (j:=1) c.out rfl;have z2:=bG0 (j:=2) c.out rfl;have z3:=bG0 (j:=3) c.out rfl;have z4:=bG0 (j:=4) c.out rfl;clear u H Z
     by_cases hi:0<=idxO o.id l
     ·have D:Hid (addN o l=9):=A.out.trans (aB hi);generalize idxO o.id l=q at hi;go_wp2_with fail;go_ret;exact ⟨by rw [D.out];rfl,a.out _ g.out (by rw [D.out];decide)⟩
     ·have D:Hid _:=A.out.trans (aA hi);clear A;generalize idxO o.id l=q at hi;have d:=W.out.below g.out lR7;obtain ⟨ao,a0,rfl,_,_⟩:=bO0 d.all;have c0:=d.cell;have f0:=d.free;have lb:=lt_of_block d.box;have lx:=lt_of_block c.out;have t:Hid _:=d;have b:base<=f.heap.size:=aI a1 g.out.size;clear d
      by_cases hf:100<=l.length
      ·have F:Hid (addN o l=12):=D.out.trans (aB hf);have a2:(100:Int)<=(l.length:Int):=o7;go_wp2_with fail;go_ret;exact ⟨by rw [F.out];rfl,a.out _ g.out (by rw [F.out];decide)⟩
      ·have F:Hid (addN o l=0):=D.out.trans (aA hf);have a2:(l.length:Int)<100:=o7;obtain ⟨i0,K,N,O,P⟩:=info_parts infoOrd;go_upto_region 11 with fail;go_cut [44] (fun _ wc=>∃v',BookIs wc base i v' (l++[p])/\Out (·=i.bb) w wc)
       case first=>
        have a4:0+l.length<=maxLen:=by unfold maxLen;omega
        have a5:l.length+1<=maxLen:=by unfold maxLen;omega
        go_region_law (first | (refine bA0 _ r7 (.tmp 36) (.tmp 40) 99 r7 base 92 i0 _ 5 40 underlying99 K N O P r7 o7 _ 0 0 [] r7 (by first | exact eK0 (heap_alloc_new _ _) b | exact eK0 (yI1 f _ _) b | exact eK0 (nX1 f _ _) (Nat.le_succ_of_le b)) ao l.length a0 (oV l) r7 (cB0 l) (Lies.of_row t.out.all q7) (jH0 l) a4 o7 (jC0 q7 b) ?_;intro gA cA wA z x n a6;have S:Below f.heap.size f wA:=cQ0 q7 x (by first | exact lR7 | exact Nat.le_succ _);have kA:f.heap.size<=gA:=iB0 q7 n (by first | exact lR7 | exact Nat.le_succ _);have lA:f.heap.size<=wA.heap.size:=S.size;have C:=(S.block _ lx).trans c.out;have a8:=bG0 (j:=0) C rfl;have a9:=bG0 (j:=1) C rfl;have b0:=bG0 (j:=2) C rfl;have b1:=bG0 (j:=3) C rfl;have b2:=bG0 (j:=4) C rfl;rw [bT,bX] at z;have OA:Hid _:=z;have V:Hid _:=S;have GA:Hid _:=x;clear C z n S x) | (refine bA0 _ r7 (.tmp 41) (.tmp 43) 99 r7 base 92 i0 _ 5 40 underlying99 K N O P r7 o7 _ _ _ _ r7 (cR0 (B:=wA.heap.size) OA.out q7 lR7) _ 1 1 p.vals r7 r7 (by first | exact Lies.of_one (heap_alloc_new _ _) | exact Lies.of_one ((GA.out.block _ (by simp <;> omega) s7).trans (yI1 f _ _)) | exact Lies.of_one ((GA.out.block _ (by simp <;> omega) s7).trans (nX1 f _ _))) (by simp [Ord.vals,Value.oneCell']) a5 o7 (jC0 (eL0 V.out q7) b) ?_;intro gB cB wB M J r L;have T:Below f.heap.size f wB:=cQ0 (eL0 V.out q7) J kA;have kB:f.heap.size<=gB:=iB0 (eL0 V.out q7) r kA;have xB:=t.out.below T lR7;have b3:=xB.cell;have b4:=xB.free;have lB:i.bb<wB.heap.size:=aT lb T.size;have OB:Hid _:=M;have BB:Hid _:=T;clear xB M r L J T))
        all_goals go_wp2_with fail
        all_goals go_meet
        all_goals exact ⟨_,kS0 t.out g.out BB.out OB.out kB s7 (by rw [cL0];rfl)⟩
       case rest=>
        obtain ⟨v',h1,m⟩:=hcut;have H1:Hid _:=h1;have H2:Hid _:=m;clear h1 m;go_wp2_with fail;go_ret;exact ⟨by rw [F.out];rfl,v',by rw [HL.out F.out];exact H1.out,H2.out⟩
theorem oM1 {B n c:Nat} (h:B<=g):∀j,(Value.slice (some ⟨g,0,none⟩) n c).ownBlock=some j->B<=j:=fun j a=>by
 have e:g=j:=by simpa [Value.ownBlock] using a
 omega
theorem BookIs.set_far {w:World} {base b j:Nat} {c:Spot} {v u:Value} {l:List Ord} (h:BookIs w base c v l) (h1:b≠c.bb) (d:v.ownBlock≠some b):BookIs (w.setCell ⟨b,j,none⟩ u) base c v l:=
 ⟨h.lt,h.ty,(cK _ _ _ _ (fun e=>h1 e.symm)).trans h.box,ownsRow_setCell_other (a:=⟨b,j,none⟩) h.all d u,fun j f=>aT (h.lim j f) s7,h.far⟩
theorem kE0 {S:Nat->Prop} {j:Nat} {u:Value} (h:Out S w w1) (c:w.heap.size<=b):Out S w (w1.setCell ⟨b,j,none⟩ u):=
 ⟨h.os,h.tape,h.output,by simpa using h.size,fun k hk a=>(cK _ _ _ _ (fun e=>by have:k=b:=e;omega)).trans (h.block k hk a)⟩
theorem set5 {B c d e f:Nat} {u0 u1 u2 u3 u4:Value} (h:Below B w w1) (a:B<=b):Below B w (((((w1.setCell ⟨b,c,none⟩ u0).setCell ⟨b,d,none⟩ u1).setCell ⟨b,e,none⟩ u2).setCell ⟨b,f,none⟩ u3).setCell ⟨b,g,none⟩ u4):=
 ((((h.setCell a _).setCell a _).setCell a _).setCell a _).setCell a _
theorem Lies.take {w W:World} {base g a k:Nat} {l:List Ord} (h:w.ownsRow base 92 5 (J (some ⟨g,0,none⟩) l.length a) l.length (oV l)) (c:Below w.heap.size w W):Lies W (some ⟨g,0,none⟩) k (oV (l.take k)):=
 aG ⟨_,rfl,fun j u b=>eD1 h c j u (by
  have d:=(List.getElem?_eq_some_iff.1 b).1;rw [show l=l.take k++l.drop k from (dE k l).symm,cL0,List.getElem?_append_left d];exact b)⟩
theorem Lies.drop {w W:World} {base g a k:Nat} {l:List Ord} (h:w.ownsRow base 92 5 (J (some ⟨g,0,none⟩) l.length a) l.length (oV l)) (b:Below w.heap.size w W):Lies W (some ⟨g,k*5,none⟩) (l.length - k) (oV (l.drop k)):=by
 by_cases hk:k<l.length
 ·refine aG ⟨_,rfl,fun j u c=>?_⟩
  have h1:=eD1 h b (k*5+j) u (by
   have e:(oV (l.take k)).length=k*5:=(cB0 _).trans (by rw [bF,fH o7]);rw [show l=l.take k++l.drop k from (dE k l).symm,cL0,List.getElem?_append_right o7,e,Nat.add_sub_cancel_left];exact c)
  rw [Addr.add_lit] at h1 ⊢;rw [<-h1];simp
 ·refine aH ⟨o7,?_⟩;rw [cI o7];rfl
theorem aX1 (base:Nat) (p:Spot) (v:Value) (l:List Ord) (id:Int) (w:World) (h:BookIs w base p v l) (hl:l.length<=100) (b2:base<=w.heap.size):
  Calls prog 100 #[E (some ⟨p.bb,p.off,none⟩),U G id] w
   fun e w'=>Out (·=p.bb) w w'/\∃v',((idxO id l=-1/\e=Y (.tuple #[Ord.none_.agg,U G 7])/\BookIs w' base p v' l)\/∃k:Nat,k<l.length/\idxO id l=k/\(oAt l k).id=id/\e=Y (.tuple #[(oAt l k).agg,U G 0])/\BookIs w' base p v' (dT0 k l)/\∀j,v'.ownBlock=some j->w.heap.size<=j):=by
 have S:=hid7 h;clear h;go_enter func100,ntmps100;go_wp2_with fail;refine (dN1 base p v l id _ (S.out.below ((aF _ _).alloc lR7 _) lR7) o7).mono ?_;rintro e w1 ⟨rfl,O⟩;have c:=mN1 O s7;have HX:Hid _:=c;have q:Hid (Below w.heap.size w w1):=((aF _ _).alloc lR7 _).trans (O.mono s7);have lx:=lt_of_block c;have z0:=bG0 (j:=0) c rfl;have z1:=bG0 (j:=1) c rfl;have z2:=bG0 (j:=2) c rfl;have z3:=bG0 (j:=3) c rfl;have z4:=bG0 (j:=4) c rfl;have f0:=gZ0 (j:=0) c;have f1:=gZ0 (j:=1) c;have f2:=gZ0 (j:=2) c;have f3:=gZ0 (j:=3) c;have f4:=gZ0 (j:=4) c;clear O c;rcases mW0 id l 0 with hn | ⟨k,hk,hi,X⟩
 ·have HN:=hid7 hn;rw [show idxO id l=-1 from hn];clear hn;go_wp2_with fail;refine bodyPost_ret (by simp [results,results100,go_sem,z0,z1,z2,z3,z4];try rfl) rfl ?_;exact ⟨aL (set5 q.out lR7) lR7,v,aH ⟨HN.out,rfl,S.out.below (set5 q.out lR7) lR7⟩⟩
 ·rw [bT] at hi;have HN:=hid7 hi;have a3:=hid7 X;rw [show idxO id l=k from hi];clear hi X;have r:=S.out.below q.out lR7;obtain ⟨g,n,rfl,d0,d1,d2,d3,d4⟩:=cT0 r.all hk
  have a5:l.length<=n/\n<=maxLen:=by
   obtain ⟨_,_,hv,a,b⟩:=bO0 r.all;simp only [aY,true_and] at hv;obtain ⟨_,rfl⟩:=hv;exact ⟨a,b⟩
  obtain ⟨V,t⟩:=a5;have c0:=r.cell;have lb:=lt_of_block r.box;have q1:(0:Int)<=(k:Int):=o7;have q2:(k:Int)<l.length:=o7;have a2:Hid _:=r;have HC:Hid (l.length<=n/\n<=maxLen):=⟨V,t⟩;clear r t;obtain ⟨i0,F,H,I,K⟩:=info_parts infoOrd;go_upto_region 5 with fail;generalize hW:w1.alloc (R #[U G (oAt l k).id,U G (oAt l k).side,U G (oAt l k).kind,U G (oAt l k).price,U G (oAt l k).qty] 92)=w2;have HO:Hid (w2.heap[w1.heap.size]? = some (R #[U G (oAt l k).id,U G (oAt l k).side,U G (oAt l k).kind,U G (oAt l k).price,U G (oAt l k).qty] 92 (0,0))):=by show _=_;rw [<-hW];exact heap_alloc_new _ _
  have N:Below w1.heap.size w1 w2:=by rw [<-hW];exact aK1 _ _
  have T:Hid _:=N;have s:=a2.out.below N lR7;have c2:=s.cell;have f2:=s.free;have a0:=lt_of_block s.box;have lo:=lt_of_block HO.out;have f:Hid _:=s;have d:base<=w2.heap.size:=by have:=q.out.size;omega
  clear s N hW;go_cut [37] (fun _ wc=>∃M n' c',BookIs wc base p (J (some ⟨M,0,none⟩) n' c') (dT0 k l)/\w2.heap.size<=M/\Out (·=p.bb) w2 wc)
  case first=>
   have q3:(k:Int)<=(n:Int):=o7;have q4:IntKind.i64.wrap ((k:Int)+1)=(k:Int)+1:=IntWalk.i64_in _ o7;have q5:(0:Int)<=(k:Int)+1:=o7;have q6:(k:Int)+1<=(l.length:Int):=o7;have b3:(l.length:Int)<=(n:Int):=o7;have q8:((k:Int)+1).toNat=k+1:=o7;have a1:0+k<=maxLen:=by unfold maxLen;omega
   have a7:k+(l.length - (k+1))<=maxLen:=by unfold maxLen;omega
   have LA:Hid ((oV (l.take k)).length=k*5):=(cB0 _).trans (by rw [bF,fH o7]);have LB:Hid ((oV (l.drop (k+1))).length=(l.length - (k+1))*5):=(cB0 _).trans (by rw [List.length_drop])
   by_cases a6:n=k+1
   ·subst a6;have a8:k+0<=maxLen:=by unfold maxLen;omega
    have q9:(k:Int)<=(k:Int)+1:=o7;go_region_law (first | (refine bA0 _ r7 (.tmp 22) (.tmp 28) 99 r7 base 92 i0 _ 5 40 underlying99 F H I K r7 o7 _ 0 0 [] r7 (eK0 (heap_alloc_new _ _) d) _ k _ (oV (l.take k)) r7 LA.out (Lies.take f.out.all q7) (jH0 _) a1 o7 (jC0 q7 d) ?_;intro gA cA wA o u i Z;have C:Below w2.heap.size w2 wA:=cQ0 q7 u lR7;have kA:w2.heap.size<=gA:=iB0 q7 i lR7;have lA:w2.heap.size<=wA.heap.size:=C.size;have a9:=(f.out.below C lR7).cell;rw [bT,bX] at o;have OA:Hid _:=o;have L:Hid _:=C;clear o i C u) | (refine bA0 _ r7 (.tmp 29) (.tmp 36) 99 r7 base 92 i0 _ 5 40 underlying99 F H I K r7 o7 _ _ _ _ r7 (cR0 (B:=wA.heap.size) OA.out q7 lR7) _ 0 _ [] r7 r7 (aH ⟨rfl,rfl⟩) s7 a8 o7 (jC0 (eL0 L.out q7) d) ?_;intro gB cB wB z x m y;have D:Below w2.heap.size w2 wB:=cQ0 (eL0 L.out q7) x kA;have kB:w2.heap.size<=gB:=iB0 (eL0 L.out q7) m kA;have P:=f.out.below D lR7;have b0:=P.cell;have b1:=P.free;have lB:p.bb<wB.heap.size:=aT a0 D.size;have OB:Hid _:=z;have BB:Hid _:=D;clear P z m y x D))
    all_goals go_wp2_with fail
    all_goals go_meet
    all_goals (have W:=kS0 (l':=dT0 k l) f.out (aF _ _) BB.out OB.out kB (by unfold dT0;simp;omega) (by unfold dT0;rw [cL0,cI o7];rfl);exact ⟨_,_,_,W.1,kB,W.2⟩)
   ·go_region_law (first | (refine bA0 _ r7 (.tmp 22) (.tmp 28) 99 r7 base 92 i0 _ 5 40 underlying99 F H I K r7 o7 _ 0 0 [] r7 (eK0 (heap_alloc_new _ _) d) _ k _ (oV (l.take k)) r7 LA.out (Lies.take f.out.all q7) (jH0 _) a1 o7 (jC0 q7 d) ?_;intro gA cA wA o u i Z;have C:Below w2.heap.size w2 wA:=cQ0 q7 u lR7;have kA:w2.heap.size<=gA:=iB0 q7 i lR7;have lA:w2.heap.size<=wA.heap.size:=C.size;have a9:=(f.out.below C lR7).cell;rw [bT,bX] at o;have OA:Hid _:=o;have L:Hid _:=C;clear o i C u) | (refine bA0 _ r7 (.tmp 29) (.tmp 36) 99 r7 base 92 i0 _ 5 40 underlying99 F H I K r7 o7 _ _ _ _ r7 (cR0 (B:=wA.heap.size) OA.out q7 lR7) _ (l.length - (k+1)) _ (oV (l.drop (k+1))) r7 LB.out (by first | exact Lies.drop f.out.all (eL0 L.out q7) | exact aH ⟨o7,by rw [cI o7];rfl⟩) (jH0 _) a7 o7 (jC0 (eL0 L.out q7) d) ?_;intro gB cB wB z x m y;have D:Below w2.heap.size w2 wB:=cQ0 (eL0 L.out q7) x kA;have kB:w2.heap.size<=gB:=iB0 (eL0 L.out q7) m kA;have P:=f.out.below D lR7;have b0:=P.cell;have b1:=P.free;have lB:p.bb<wB.heap.size:=aT a0 D.size;have OB:Hid _:=z;have BB:Hid _:=D;clear P z m y x D))
    all_goals go_wp2_with fail
    all_goals go_meet
    all_goals (have W:=kS0 (l':=dT0 k l) f.out (aF _ _) BB.out OB.out kB (by unfold dT0;simp;omega) (by unfold dT0;rw [cL0]);exact ⟨_,_,_,W.1,kB,W.2⟩)
  case rest=>
   obtain ⟨M,n',c',h1,h2,h3⟩:=hcut;have c:=(h3.block _ o7 (by have:=lt_of_block S.out.box;omega)).trans ((T.out.block _ lx).trans HX.out);have Q:=(h3.block _ lo o7).trans HO.out;have z0:=bG0 (j:=0) c rfl;have z1:=bG0 (j:=1) c rfl;have z2:=bG0 (j:=2) c rfl;have z3:=bG0 (j:=3) c rfl;have z4:=bG0 (j:=4) c rfl;have f0:=gZ0 (j:=0) c;have f1:=gZ0 (j:=1) c;have f2:=gZ0 (j:=2) c;have f3:=gZ0 (j:=3) c;have f4:=gZ0 (j:=4) c;have y0:=bG0 (j:=0) Q rfl;have y1:=bG0 (j:=1) Q rfl;have y2:=bG0 (j:=2) Q rfl;have y3:=bG0 (j:=3) Q rfl;have y4:=bG0 (j:=4) Q rfl;have a4:Hid (Out (·=p.bb) w wc):=(aL (q.out.trans (T.out.mono q.out.size)) lR7).trans h3 (Went.refl _ _);have nb:w.heap.size≠p.bb:=by have:=lt_of_block S.out.box;omega
   have ng:(Value.slice (some ⟨M,0,none⟩) n' c').ownBlock≠some w.heap.size:=fun e=>by
    have e':M=w.heap.size:=by simpa [Value.ownBlock] using e
    omega
   have A:Hid (w.heap.size≠p.bb/\(Value.slice (some ⟨M,0,none⟩) n' c').ownBlock≠some w.heap.size):=⟨nb,ng⟩;have H1:Hid _:=h1;have HG:Hid (w.heap.size<=M):=by show w.heap.size<=M;omega
   clear c Q h1 h2 h3 nb ng;go_wp2_with fail;refine bodyPost_ret (by simp [results,results100,go_sem,z0,z1,z2,z3,z4];try rfl) rfl ?_;exact ⟨kE0 (kE0 (kE0 (kE0 (kE0 a4.out lR7) lR7) lR7) lR7) lR7,_,aG ⟨k,hk,HN.out,a3.out,rfl,((((H1.out.set_far A.out.1 A.out.2).set_far A.out.1 A.out.2).set_far A.out.1 A.out.2).set_far A.out.1 A.out.2).set_far A.out.1 A.out.2,oM1 HG.out⟩⟩
theorem uP1 (base:Nat) (a:Spot) (v:Value) (l:List Ord) (id:Int) (w:World) (h:BookIs w base a v l) (i:l.length<=100) (b:base<=w.heap.size):
  Calls prog 100 #[E (some ⟨a.bb,a.off,none⟩),U G id] w
   fun e w'=>Out (·=a.bb) w w'/\∃v',((idxO id l=-1/\e=Y (.tuple #[Ord.none_.agg,U G 7])/\BookIs w' base a v' l)\/∃k:Nat,k<l.length/\idxO id l=k/\(oAt l k).id=id/\e=Y (.tuple #[(oAt l k).agg,U G 0])/\BookIs w' base a v' (dT0 k l)):=by
 refine (aX1 base a v l id w h i b).mono ?_;rintro e w' ⟨c,v',h1 | ⟨k,hk,h1,d,f,g,_⟩⟩
 ·exact ⟨c,v',aH h1⟩
 ·exact ⟨c,v',aG ⟨k,hk,h1,d,f,g⟩⟩
theorem yM1 (q:Int):∀(l:List Ord) (k:Nat),k<l.length->(oV l).set (k*5+4) (U G ((oAt l k).qty - q))=oV (l.set k (cutO q (oAt l k)))
 | [],_,h=>by simp at h
 | o::l,0,_=>by simp [oV,oAt,cutO]
 | o::l,k+1,h=>by
  have:=yM1 q l k (by simpa using h);have e:oAt (o::l) (k+1)=oAt l k:=by simp [oAt]
  rw [e,show (k+1)*5+4=k*5+4+1+1+1+1+1 by omega];simp [oV,this]
theorem BookIs.cut {w:World} {base g a k:Nat} {b:Spot} {q:Int} {l:List Ord} (h:BookIs w base b (J (some ⟨g,0,none⟩) l.length a) l) (hk:k<l.length) (c:g≠b.bb):
  BookIs (w.setCell ⟨g,k*5+4,none⟩ (U G ((oAt l k).qty - q))) base b (J (some ⟨g,0,none⟩) l.length a) (l.set k (cutO q (oAt l k))):=by
 obtain ⟨h1,_⟩:=h.all.stored (k*5+4) (U G ((oAt l k).qty - q));refine ⟨h.lt,h.ty,(cK _ _ _ _ (fun e=>c e.symm)).trans h.box,?_,fun j d=>aT (h.lim j d) s7,h.far⟩;rw [List.length_set,<-yM1 q l k hk];exact h1
theorem pL0 (w:World) {r:Array Oper} {k:List Oper} (C:o.guard=none) (s x:Operand) (t:TypeId)
  (M:o.op=.call { callee:=.builtin .append,args:=#[s,x],argTypes:=#[t,t] })
  (base:Nat) (e:TypeId) (i:TypeInfo) (z:Value) (d bytes:Nat) (O:P.underlying t=some (.slice e)) (hi:P.info? e=some i) (T:i.zero=some z)
  (p:i.size=d) (B:i.bytes=bytes) (E:z.cells.size=d) (D:0<d)
  (b n y:Nat) (xs:List Value) (N:a.eval s=J (some ⟨b,0,none⟩) n y) (q:w.ownsRow base e d (J (some ⟨b,0,none⟩) n y) n xs)
  (v:Option Addr) (m c:Nat) (news:List Value) (R:a.eval x=J v m c) (L:news.length=m*d) (S:Lies w v m news) (h1:∀u∈news,u.oneCell'=true)
  (A:n+m<=maxLen) (j:(n+m)*bytes<=140737488355328) (l:base<=w.heap.size)
  (h:∀g f w',w'.ownsRow base e d (J (some ⟨g,0,none⟩) (n+m) f) (n+m) (xs++news)->w.grownBy w' (some b)->(g=b\/g=w.heap.size)->g<w'.heap.size->wpList P r Q k (a.put o.dst (J (some ⟨g,0,none⟩) (n+m) f)) w'):wpList P r Q (o::k) a w:=
 wpList_plain C fun _ K=>kR0 w s x t M base e i z d bytes O hi T p B E D b n y xs N q v m c news R L S h1 A j l fun g f w' F G H I=>K _ _ (h g f w' F G H I)
theorem yN1 (base:Nat) (c:Spot) (v:Value) (l:List Ord) (id q:Int) (w:World) (h:BookIs w base c v l) (hl:l.length<=100) (y:base<=w.heap.size) (C:∀k,(oAt l k).qty<=1000000):
  Calls prog 152 #[E (some ⟨c.bb,c.off,none⟩),U G id,U G q] w
   fun e w'=>Out (·=c.bb) w w'/\∃v',((idxO id l=-1/\e=Y (U G 7)/\BookIs w' base c v' l)\/∃k:Nat,k<l.length/\idxO id l=k/\(oAt l k).id=id/\
    (((decide (1<=q)&& decide (q<=(oAt l k).qty))=false/\e=Y (U G 2)/\BookIs w' base c v' l)\/((decide (1<=q)&& decide (q<=(oAt l k).qty))=true/\e=Y (U G 0)/\BookIs w' base c v' (if (oAt l k).qty=q then dT0 k l else l.set k (cutO q (oAt l k)))/\∀j,v'.ownBlock=some j->w.heap.size<=j))):=by
 have H:=hid7 h;clear h;go_enter func152,ntmps152;go_wp2_with fail;refine (dN1 base c v l id _ H.out o7).mono ?_;rintro e w1 ⟨rfl,x⟩;have a:=hid7 x;clear x;rcases mW0 id l 0 with Q | ⟨k,hk,hi,A⟩
 ·have p:Hid (idxO id l=-1):=Q;rw [show idxO id l=-1 from Q];clear Q;go_wp2_with fail;go_ret;exact ⟨aL a.out lR7,v,aH ⟨p.out,rfl,H.out.below a.out lR7⟩⟩
 ·rw [bT] at hi;have p:Hid (idxO id l=k):=hi;have o:=hid7 A;rw [show idxO id l=k from hi];clear hi A;have b:=H.out.below a.out lR7;obtain ⟨g,L,rfl,d0,d1,d2,d3,d4⟩:=cT0 b.all hk;have c0:=b.cell;have f0:=b.free;have lb:=lt_of_block b.box;have q1:(0:Int)<=(k:Int):=o7;have q2:(k:Int)<l.length:=o7;have f:Hid _:=b;clear b;go_wp2_with fail;refine (bkIn q 1 (oAt l k).qty _).mono ?_;rintro e F ⟨rfl,hw⟩;subst hw;cases hq:(decide (1<=q)&& decide (q<=(oAt l k).qty)) with
  | false=>
   have s:=hid7 hq;clear hq;go_wp2_with fail;go_ret;exact ⟨aL a.out lR7,_,aG ⟨k,hk,p.out,o.out,aH ⟨s.out,rfl,f.out⟩⟩⟩
  | true=>
   have s:=hid7 hq;clear hq;have n:base<=F.heap.size:=aI y a.out.size;have Z:0+l.length<=maxLen:=by unfold maxLen;omega
   obtain ⟨i0,P,S,T,V⟩:=info_parts infoOrd;have R:1<=q/\q<=(oAt l k).qty:=by simpa using s.out
   have q4:IntKind.i64.wrap ((oAt l k).qty - q)=(oAt l k).qty - q:=IntWalk.i64_in _ (by have:=C k;omega);obtain ⟨a2,a3⟩:=R;clear C;go_upto_if 53 with (at_builtin;go_loud (refine pL0 _ rfl _ _ 99 rfl base 92 i0 _ 5 40 underlying99 P S T V r7 o7 _ 0 0 [] r7 (eK0 (heap_alloc_new _ _) n) _ l.length L (oV l) r7 (cB0 l) (Lies.of_row f.out.all q7) (jH0 l) Z o7 (jC0 q7 n) ?_;intro gA cA wA d z m a0;have K:Below F.heap.size F wA:=cQ0 q7 z lR7;have X:F.heap.size<=gA:=iB0 q7 m lR7;have xA:=f.out.below K lR7;have a5:=xA.cell;have a6:=xA.free;rw [bT,bX] at d;have eA:=(d.cellAt (k*5+4) o7).trans (sJ1 hk).2.2.2.2;have a1:=d.frozenAt (k*5+4);have nA:gA≠c.bb:=o7;have a4:c.bb≠gA:=o7;have OA:Hid _:=d;have BA:Hid _:=K;clear d m K z xA));have O:=kS0 (l':=l) f.out a.out BA.out OA.out X rfl rfl;have r:Hid _:=O.1.cut (q:=q) hk nA;have i:Hid _:=kE0 (j:=k*5+4) (u:=U G ((oAt l k).qty - q)) O.2 (aI a.out.size X);clear O
   by_cases D:(oAt l k).qty=q
   ·have W:((oAt l k).qty - q == 0)=true:=beq_iff_eq.2 o7;have J:=hid7 D;clear D;go_wp2_with fail;refine (aX1 base c _ (l.set k (cutO q (oAt l k))) id _ r.out (by simpa using hl) (aI y i.out.size)).mono ?_;rintro e w3 ⟨B,v',hr⟩;have M:idxO id (l.set k (cutO q (oAt l k)))=idxO id l:=fG1 id l k 0 _ rfl
    have N:(BookIs w3 base c v' (dT0 k l)/\∀j,v'.ownBlock=some j->w.heap.size<=j)/\∃u,e=Y u:=by
     rcases hr with ⟨h1,_⟩ | ⟨k',_,h1,_,h2,t,h4⟩
     ·rw [M,p.out] at h1;omega
     ·rw [M,p.out] at h1;obtain rfl:k=k':=o7;rw [yV0] at t;exact ⟨⟨t,fun j hj=>aI i.out.size (h4 j hj)⟩,_,h2⟩
    obtain ⟨t,u,rfl⟩:=N;have H3:Hid _:=t;have I:Hid _:=i.out.trans B (Went.refl _ _);clear t B hr M;go_wp2_with fail;go_ret;exact ⟨I.out,v',aG ⟨k,hk,p.out,o.out,aG ⟨s.out,rfl,by rw [aB J.out];exact H3.out.1,H3.out.2⟩⟩⟩
   ·have W:((oAt l k).qty - q == 0)=false:=aC.2 o7;have J:=hid7 D;clear D;go_wp2_with fail;go_ret;exact ⟨i.out,_,aG ⟨k,hk,p.out,o.out,aG ⟨s.out,rfl,by rw [aA J.out];exact r.out,oM1 (aI a.out.size X)⟩⟩⟩
theorem hU2 (base:Nat) (a:Spot) (v:Value) (l:List Ord) (id q:Int) (w:World) (h:BookIs w base a v l) (m:l.length<=100) (d:base<=w.heap.size) (f:∀k,(oAt l k).qty<=1000000):
  Calls prog 152 #[E (some ⟨a.bb,a.off,none⟩),U G id,U G q] w
   fun e w'=>Out (·=a.bb) w w'/\∃v',((idxO id l=-1/\e=Y (U G 7)/\BookIs w' base a v' l)\/∃k:Nat,k<l.length/\idxO id l=k/\(oAt l k).id=id/\
    (((decide (1<=q)&& decide (q<=(oAt l k).qty))=false/\e=Y (U G 2)/\BookIs w' base a v' l)\/((decide (1<=q)&& decide (q<=(oAt l k).qty))=true/\e=Y (U G 0)/\BookIs w' base a v' (if (oAt l k).qty=q then dT0 k l else l.set k (cutO q (oAt l k)))))):=by
 refine (yN1 base a v l id q w h m d f).mono ?_;rintro e w' ⟨c,v',h1 | ⟨k,hk,h1,g,b | ⟨b,i,j,_⟩⟩⟩
 ·exact ⟨c,v',aH h1⟩
 ·exact ⟨c,v',aG ⟨k,hk,h1,g,aH b⟩⟩
 ·exact ⟨c,v',aG ⟨k,hk,h1,g,aG ⟨b,i,j⟩⟩⟩
theorem eS2 {p r:Int} (h:hasB (folL p) r=true):¬r=p:=by
 intro e;subst e;unfold folL at h;split at h
 ·rename_i e;subst e;exact absurd h d7
 split at h
 ·rename_i e;subst e;exact absurd h d7
 split at h
 ·rename_i e;subst e;exact absurd h d7
 split at h
 ·rename_i e;subst e;exact absurd h d7
 ·cases h
theorem tJ0 {r:Int×Int} (h:rowE p r=0):¬r.2=p.2/\p.1<r.1:=by
 unfold rowE jJ0 at h;split at h
 ·rename_i h1;refine ⟨eS2 h1,?_⟩;split at h
  ·cases h
  ·omega
 ·cases h
theorem oC0 {r:Int×Int} {k:Nat} (h:gR0 p k (r::rs)=(0,-1)):rowE p r=0/\gR0 r (k+1) rs=(0,-1):=by
 unfold gR0 at h;split at h
 ·rename_i e;exact ⟨e,h⟩
 ·rename_i e;exact absurd (congrArg Prod.fst h) e
theorem tK0 {k:Nat}:∀{rs:List (Int×Int)},gR0 p k rs=(0,-1)->now<=p.1->∃n,bF0 p.2 now rs=(p.2,n)
 | [],_,_=>⟨-1,rfl⟩
 | r::rs,h,hn=>by
  obtain ⟨h1,_⟩:=oC0 h;have:=(tJ0 h1).2;exact ⟨r.1,by unfold bF0;rw [aB o7]⟩
theorem oN1 {now:Int} (h0:0<=now):∀{rs:List (Int×Int)} {p:Int×Int} {k:Nat},gR0 p k rs=(0,-1)->p.1<=now->
  ((bF0 p.2 now rs).2=now+1↔¬(bF0 p.2 (now+1) rs).1=(bF0 p.2 now rs).1)/\((bF0 p.2 now rs).2=-1\/now<(bF0 p.2 now rs).2)
   /\((bF0 p.2 (now+1) rs).1=(bF0 p.2 now rs).1->(bF0 p.2 (now+1) rs).2=(bF0 p.2 now rs).2)
 | [],p,k,_,_=>by simp [bF0];omega
 | r::rs,p,k,h,hp=>by
  obtain ⟨h1,d⟩:=oC0 h;obtain ⟨c,j⟩:=tJ0 h1
  by_cases i:r.1<=now
  ·have b:bF0 p.2 now (r::rs)=bF0 r.2 now rs:=by unfold bF0;rw [aA o7];cases rs <;> rfl
   have a:bF0 p.2 (now+1) (r::rs)=bF0 r.2 (now+1) rs:=by unfold bF0;rw [aA o7];cases rs <;> rfl
   rw [b,a];exact oN1 h0 d i
  ·have b:bF0 p.2 now (r::rs)=(p.2,r.1):=by unfold bF0;rw [aB o7]
   by_cases f:r.1=now+1
   ·obtain ⟨n,g⟩:=tK0 (now:=now+1) d o7;have a:bF0 p.2 (now+1) (r::rs)=(r.2,n):=by rw [<-g];unfold bF0;rw [aA o7];cases rs <;> rfl
    rw [b,a];exact ⟨⟨fun _=>c,fun _=>f⟩,aG (by simp;omega),fun e=>absurd e c⟩
   ·have a:bF0 p.2 (now+1) (r::rs)=(p.2,r.1):=by unfold bF0;rw [aB o7]
    rw [b,a];exact ⟨⟨fun e=>absurd e f,fun e=>absurd rfl e⟩,aG (by simp;omega),fun _=>rfl⟩
theorem aY1 (h:tabE rs=(0,-1)):0<rs.length/\bZ0 rs 0=(0,1)/\gR0 (bZ0 rs 0) 1 (rs.drop 1)=(0,-1):=by
 cases rs with
 | nil=>exact absurd (congrArg Prod.fst h) d7
 | cons r rs=>
  rw [lY0] at h;split at h
  ·exact absurd (congrArg Prod.fst h) d7
  split at h
  ·rename_i e;exact ⟨Nat.succ_pos _,e,h⟩
  ·exact absurd (congrArg Prod.fst h) d7
theorem aZ1 {now:Int}:∀{rs:List (Int×Int)} {p:Int×Int} {k:Nat},gR0 p k rs=(0,-1)->p.1<=now->
  (bF0 p.2 (now+1) rs).1=(bF0 p.2 now rs).1\/hasB (folL (bF0 p.2 now rs).1) (bF0 p.2 (now+1) rs).1=true
 | [],p,k,_,_=>aH rfl
 | r::rs,p,k,h,hp=>by
  obtain ⟨h1,c⟩:=oC0 h;obtain ⟨g,i⟩:=tJ0 h1
  by_cases f:r.1<=now
  ·have b:bF0 p.2 now (r::rs)=bF0 r.2 now rs:=by unfold bF0;rw [aA o7];cases rs <;> rfl
   have a:bF0 p.2 (now+1) (r::rs)=bF0 r.2 (now+1) rs:=by unfold bF0;rw [aA o7];cases rs <;> rfl
   rw [b,a];exact aZ1 c f
  ·have b:bF0 p.2 now (r::rs)=(p.2,r.1):=by unfold bF0;rw [aB o7]
   by_cases j:r.1=now+1
   ·obtain ⟨n,e⟩:=tK0 (now:=now+1) c o7;have a:bF0 p.2 (now+1) (r::rs)=(r.2,n):=by rw [<-e];unfold bF0;rw [aA o7];cases rs <;> rfl
    rw [b,a];right;show hasB (folL p.2) r.2=true;unfold rowE jJ0 at h1
    by_cases d:hasB (folL p.2) r.2=true
    ·exact d
    ·rw [aA d] at h1;cases h1
   ·have a:bF0 p.2 (now+1) (r::rs)=(p.2,r.1):=by unfold bF0;rw [aB o7]
    rw [b,a];exact aH rfl
theorem vP0 (h:tabE rs=(0,-1)) (h0:0<=now):(phaseV rs (now+1)).1=(phaseV rs now).1\/hasB (folL (phaseV rs now).1) (phaseV rs (now+1)).1=true:=by
 obtain ⟨_,h1,a⟩:=aY1 h;exact aZ1 a (by rw [h1];exact h0)
theorem oO1 {p r:Int} (h:hasB (folL p) r=true):(p=1/\r=2)\/(p=2/\r=3)\/(p=3/\(r=5\/r=7))\/(p=5/\r=7):=by
 unfold folL at h;split at h
 ·rename_i e;exact aH ⟨e,by simpa [hasB] using h⟩
 split at h
 ·rename_i e;exact aG (aH ⟨e,by simpa [hasB] using h⟩)
 split at h
 ·rename_i e;exact aG (aG (aH ⟨e,by simpa [hasB] using h⟩))
 split at h
 ·rename_i e;exact aG (aG (aG ⟨e,by simpa [hasB] using h⟩))
 ·cases h
theorem vQ0 {now:Int}:∀{rs:List (Int×Int)} {p:Int×Int} {k:Nat},gR0 p k rs=(0,-1)->(p.2=1\/p.2=2\/p.2=3\/p.2=5\/p.2=7)->(bF0 p.2 now rs).1=1\/(bF0 p.2 now rs).1=2\/(bF0 p.2 now rs).1=3\/(bF0 p.2 now rs).1=5\/(bF0 p.2 now rs).1=7
 | [],p,k,_,hp=>hp
 | r::rs,p,k,h,hp=>by
  obtain ⟨h1,d⟩:=oC0 h
  by_cases c:now<r.1
  ·have b:bF0 p.2 now (r::rs)=(p.2,r.1):=by unfold bF0;rw [aB c]
   rw [b];exact hp
  ·have b:bF0 p.2 now (r::rs)=bF0 r.2 now rs:=by unfold bF0;rw [aA c];cases rs <;> rfl
   rw [b];refine vQ0 d ?_
   have a:hasB (folL p.2) r.2=true:=by
    unfold rowE jJ0 at h1
    by_cases a:hasB (folL p.2) r.2=true
    ·exact a
    ·rw [aA a] at h1;cases h1
   rcases oO1 a with ⟨_,e⟩ | ⟨_,e⟩ | ⟨_,e | e⟩ | ⟨_,e⟩ <;> omega
theorem pM0 (h:tabE rs=(0,-1)):(phaseV rs now).1=1\/(phaseV rs now).1=2\/(phaseV rs now).1=3\/(phaseV rs now).1=5\/(phaseV rs now).1=7:=by
 obtain ⟨_,h1,a⟩:=aY1 h;exact vQ0 a (by rw [h1];exact aH rfl)
end
section
open Go.RowKit Go.Extern.Stop Go.Stop Go.Extern
theorem vP (t:Addr) (w:World):(ReflectliteValue.unpack (.iface 235 (E (some t)))).run prog w
  = .ok (.agg #[E (some ⟨12,235,none⟩),E (some ⟨w.heap.size,0,none⟩),.int .u64 150]) (w.alloc (R #[E (some t)] 235)):=k7
theorem tP (a:Addr) (w:World):(ReflectliteValue.methodAny (ReflectliteValue.valueError "reflectlite.Value.Type" 0) (fun t _ _ _=>ReflectliteType.toType t) #[.agg #[E (some ⟨12,235,none⟩),E (some a),.int .u64 150]]).run prog w
  = .ok (.iface 289 (.agg #[E (some ⟨12,235,none⟩)])) w:=k7
theorem mKind (h:Value) (w:World):(Go.method 506 289 (.agg #[h]) "Kind").run prog w=.ok (328,h) w:=k7
theorem kP (w:World):((ReflectliteType.abiMethod fun t=>(fun a:Nat=>Value.int IntKind.u8 (a:Int)) <$> Rtype.kind t) #[E (some ⟨12,235,none⟩)]).run prog w=.ok (.int .u8 22) w:=k7
theorem kE (w:World):((ReflectliteType.abiMethod fun t=>(fun a:Nat=>Value.int IntKind.u8 (a:Int)) <$> Rtype.kind t) #[E (some ⟨12,26,none⟩)]).run prog w=.ok (.int .u8 2) w:=k7
theorem partsP (a:Addr) (w:World):(ReflectliteValue.parts (.agg #[E (some ⟨12,235,none⟩),E (some a),.int .u64 150])).run prog w=.ok (some (235,a,150)) w:=k7
theorem isNilP (a p:Addr) (W:World) (b:W.cell? a=some (E (some p))):
  (ReflectliteValue.method (ReflectliteValue.valueError "reflectlite.Value.IsNil" 0) ReflectliteValue.isNil #[.agg #[E (some ⟨12,235,none⟩),E (some a),.int .u64 150]]).run prog W=.ok (.bool false) W:=by
 rw [Lib.rl_method];simp only [Sem.run_bind,partsP,Result.andThen];simp [ReflectliteValue.isNil,loadVar,isAgg,underlying,underlying235,b,Result.andThen]
theorem mElem (h:Value) (w:World):(Go.method 506 289 (.agg #[h]) "Elem").run prog w=.ok (341,.agg #[h]) w:=k7
theorem mImplements (h:Value) (w:World):(Go.method 506 289 (.agg #[h]) "Implements").run prog w=.ok (342,.agg #[h]) w:=k7
theorem mAssignableTo (h:Value) (w:World):(Go.method 506 289 (.agg #[h]) "AssignableTo").run prog w=.ok (340,.agg #[h]) w:=k7
theorem elemP (w:World):(ReflectliteType.method ReflectliteType.elem #[.agg #[E (some ⟨12,235,none⟩)]]).run prog w=.ok (.iface 289 (.agg #[E (some ⟨12,26,none⟩)])) w:=k7
theorem implementsE (w:World):(ReflectliteType.relation "Implements" ReflectliteType.implements_ #[.agg #[E (some ⟨12,26,none⟩)],.iface 289 (.agg #[E (some ⟨12,43,none⟩)])]).run prog w=.ok (.bool true) w:=k7
theorem typeOfE (v:Value) (w:World):(ReflectliteType.typeOf #[.iface 26 v]).run prog w=.ok (.iface 289 (.agg #[E (some ⟨12,26,none⟩)])) w:=k7
theorem assignableE (w:World):(ReflectliteType.relation "AssignableTo" ReflectliteType.assignableTo #[.agg #[E (some ⟨12,26,none⟩)],.iface 289 (.agg #[E (some ⟨12,26,none⟩)])]).run prog w=.ok (.bool true) w:=k7
theorem valueOfE (n:Int) (w:World):(ReflectliteValue.unpack (.iface 26 (U G n))).run prog w
  = .ok (.agg #[E (some ⟨12,26,none⟩),E (some ⟨w.heap.size,0,none⟩),.int .u64 130]) (w.alloc (R #[U G n] 26)):=k7
theorem elemOfP (w:World):(Rtype.elem? 235).run prog w=.ok (some 26) w:=k7
theorem mkE (p:Addr) (w:World):(ReflectliteValue.mk 26 p ReflectliteValue.flagAddr).run prog w=.ok (.agg #[E (some ⟨12,26,none⟩),E (some p),.int .u64 386]) w:=k7
theorem elemVP (a p:Addr) (W:World) (b:W.cell? a=some (E (some p))):
  (ReflectliteValue.method (ReflectliteValue.valueError "reflectlite.Value.Elem" 0) ReflectliteValue.elem #[.agg #[E (some ⟨12,235,none⟩),E (some a),.int .u64 150]]).run prog W
   = .ok (.agg #[E (some ⟨12,26,none⟩),E (some p),.int .u64 386]) W:=by
 rw [Lib.rl_method];simp only [Sem.run_bind,partsP,Result.andThen];simp [ReflectliteValue.elem,loadVar,isAgg,underlying,underlying235,b,Result.andThen,elemOfP,mkE]
theorem partsEa (a:Addr) (w:World):(ReflectliteValue.parts (.agg #[E (some ⟨12,26,none⟩),E (some a),.int .u64 386])).run prog w=.ok (some (26,a,386)) w:=k7
theorem partsE (a:Addr) (w:World):(ReflectliteValue.parts (.agg #[E (some ⟨12,26,none⟩),E (some a),.int .u64 130])).run prog w=.ok (some (26,a,130)) w:=k7
theorem directE (w:World):(Rtype.directlyAssignable 26 26).run prog w=.ok true w:=k7
theorem aT2 {b:Array Value->Sort _} (v x:Value) (f:(v x:Value)->b #[v,x]) (g:(a:Array Value)->b a):
  ReflectliteValue.set.match_3 b #[v,x] f g=f v x:=rfl
theorem setE (a b:Addr) (n:Int) (c:Value) (W:World) (d:W.cell? b=some (U G n)) (f:W.cell? a=some c) (e:W.frozen? a=false):
  (ReflectliteValue.set #[.agg #[E (some ⟨12,26,none⟩),E (some a),.int .u64 386],.agg #[E (some ⟨12,26,none⟩),E (some b),.int .u64 130]]).run prog W
   = .ok (.tuple #[]) (W.setCell a (U G n)):=by
 delta ReflectliteValue.set
 rw [aT2];simp only [Sem.run_bind,partsEa,partsE,Result.andThen];simp [ReflectliteValue.flagAddr,loadVar,isAgg,underlying,underlying26,d,Result.andThen,directE,storeVar,Value.cells,storeCells,Addr.add];rw [run_store prog W a _ _ r7];simp [f,e]
def ErrT (w:World):Prop:=w.cell? ⟨6,0,none⟩=some (.iface 289 (.agg #[E (some ⟨12,43,none⟩)]))
theorem ErrT.lt {w:World} (a:ErrT w):6<w.heap.size:=by
 rcases eE 6 w.heap.size with h | h
 ·exact h
 ·simp [ErrT,World.cell?,Array.getElem?_eq_none h] at a
theorem ErrT.below {w w':World} (a:ErrT w) (b:Below w.heap.size w w'):ErrT w':=(b.cell (p:=⟨6,0,none⟩) a.lt).trans a
theorem typeOfA (v:Value) (w:World):(ReflectliteType.typeOf #[.iface 215 v]).run prog w=.ok (.iface 289 (.agg #[E (some ⟨12,215,none⟩)])) w:=k7
theorem assignableA (w:World):(ReflectliteType.relation "AssignableTo" ReflectliteType.assignableTo #[.agg #[E (some ⟨12,215,none⟩)],.iface 289 (.agg #[E (some ⟨12,26,none⟩)])]).run prog w=.ok (.bool false) w:=k7
theorem noAsA (v:Value) (a:TypeId) (w:World):(Instr.typeAssert (.iface 215 v) a 336 true).run prog w=.ok (.tuple #[.nilIface,.bool false]) w:=run_typeAssert_lacksB underlying336 k7 k7 v a w
theorem unwrapA (v:Value) (a:TypeId) (w:World):(Instr.typeAssert (.iface 215 v) a 339 true).run prog w=.ok (.tuple #[.iface 215 v,.bool true]) w:=run_typeAssert_hasB underlying339 k7 v a w
theorem eT0 (o:Obj) {a:Addr} (h:a.block<w.heap.size):(w.alloc o).cell? a=w.cell? a:=World.cell?_alloc_lt _ _ a h
theorem qZ0 (o:Obj) {a:Addr} (h:a.block<w.heap.size):(w.alloc o).frozen? a=w.frozen? a:=World.frozen?_alloc_old _ _ a (Nat.ne_of_lt h)
theorem cI0 {a:Addr} {v:Value} (h:w.cell? a=some v):a.block<w.heap.size:=by
 rcases eE a.block w.heap.size with b | b
 ·exact b
 ·simp [World.cell?,Array.getElem?_eq_none b] at h
theorem uQ1 (n:Int) (t a:Addr) (d:Value) (w:World) (g:w.cell? a=some (E (some t))) (b:w.cell? t=some d) (f:w.frozen? t=false):
  Calls prog 233 #[.iface 26 (U G n),.iface 235 (E (some t)),.agg #[E (some ⟨12,235,none⟩),E (some a),.int .u64 150],.iface 289 (.agg #[E (some ⟨12,26,none⟩)])] w fun i w'=>i=Y (.bool true)
   /\w'=((w.alloc (R #[E (some ⟨12,235,none⟩),E (some a),.int .u64 150] 208)).alloc (R #[U G n] 26)).setCell t (U G n):=by
 have e:=cI0 g;have c:=cI0 b;have q:=@run_callFunc_extern prog 157 _ (fun args=>ReflectliteValue.unpack (args.getD 0 (.tuple #[]))) func157 k7 k7 k7 k7;have j:=@run_callFunc_extern prog 262 _ ReflectliteType.typeOf func262 k7 k7 k7 k7;have m:=@run_callFunc_extern prog 340 _ (ReflectliteType.relation "AssignableTo" ReflectliteType.assignableTo) func340 k7 k7 k7 k7;have k:=@run_callFunc_extern prog 263 _ (ReflectliteValue.method (ReflectliteValue.valueError "reflectlite.Value.Elem" 0) ReflectliteValue.elem) func263 k7 k7 k7 k7;have l:=@run_callFunc_extern prog 264 _ ReflectliteValue.set func264 k7 k7 k7 k7;have s:=typeOfE;have r:=mAssignableTo;have o:=assignableE;have u:=valueOfE;have p:=elemVP a t (w.alloc (R #[E (some ⟨12,235,none⟩),E (some a),.int .u64 150] 208)) (by rw [eT0 _ e];exact g)
 have st:=setE t ⟨w.heap.size+1,0,none⟩ n d ((w.alloc (R #[E (some ⟨12,235,none⟩),E (some a),.int .u64 150] 208)).alloc (R #[U G n] 26))
  (by rw [World.cell?_alloc_at _ _ _ _ s7];rfl)
  (by rw [eT0 _ (by simp;omega),eT0 _ c];exact b)
  (by rw [qZ0 _ (by simp;omega),qZ0 _ c];exact f)
 go_enter func233,ntmps233;go_wp2;refine wp_loop_rounds 1 ?_;rw [rounds_succ];go_wp2;go_ret;exact ⟨rfl,rfl⟩
theorem hV2 (n:Int) (b o:Nat) (t a:Addr) (e:Value) (w:World) (k:w.cell? ⟨b,o,none⟩=some (U G n)) (j:w.cell? a=some (E (some t))) (c:w.cell? t=some e) (i:w.frozen? t=false):
  Calls prog 233 #[.iface 215 (E (some ⟨b,o,none⟩)),.iface 235 (E (some t)),.agg #[E (some ⟨12,235,none⟩),E (some a),.int .u64 150],.iface 289 (.agg #[E (some ⟨12,26,none⟩)])] w fun l w'=>l=Y (.bool true)
   /\w'=((w.alloc (R #[E (some ⟨12,235,none⟩),E (some a),.int .u64 150] 208)).alloc (R #[U G n] 26)).setCell t (U G n):=by
 have f:=cI0 j;have d:=cI0 c;have g:=cI0 k;have y:=@run_callFunc_extern prog 157 _ (fun args=>ReflectliteValue.unpack (args.getD 0 (.tuple #[]))) func157 k7 k7 k7 k7;have m:=@run_callFunc_extern prog 262 _ ReflectliteType.typeOf func262 k7 k7 k7 k7;have r:=@run_callFunc_extern prog 340 _ (ReflectliteType.relation "AssignableTo" ReflectliteType.assignableTo) func340 k7 k7 k7 k7;have p:=@run_callFunc_extern prog 263 _ (ReflectliteValue.method (ReflectliteValue.valueError "reflectlite.Value.Elem" 0) ReflectliteValue.elem) func263 k7 k7 k7 k7;have q:=@run_callFunc_extern prog 264 _ ReflectliteValue.set func264 k7 k7 k7 k7;have C:=typeOfE;have B:=typeOfA;have z:=mAssignableTo;have v:=assignableE;have u:=assignableA;have A:=noAsA;have D:=unwrapA;have F:=valueOfE;have s:(w.alloc (R #[E (some ⟨12,235,none⟩),E (some a),.int .u64 150] 208)).cell? ⟨b,o,none⟩=some (U G n):=by rw [eT0 _ g];exact k
 have x:=elemVP a t (w.alloc (R #[E (some ⟨12,235,none⟩),E (some a),.int .u64 150] 208)) (by rw [eT0 _ f];exact j)
 have st:=setE t ⟨w.heap.size+1,0,none⟩ n e ((w.alloc (R #[E (some ⟨12,235,none⟩),E (some a),.int .u64 150] 208)).alloc (R #[U G n] 26))
  (by rw [World.cell?_alloc_at _ _ _ _ s7];rfl)
  (by rw [eT0 _ (by simp;omega),eT0 _ d];exact c)
  (by rw [qZ0 _ (by simp;omega),qZ0 _ d];exact i)
 go_enter func233,ntmps233;go_wp2;refine wp_loop_rounds 2 ?_;rw [rounds_succ];go_wp2;rw [rounds_succ];go_wp2;go_ret;exact ⟨rfl,rfl⟩
theorem eT2 (b:TypeId) (c:Value) (t:Addr) (w:World) (d:ErrT w) (Q:Ending->World->Prop)
  (h:∀W:World,Below w.heap.size w W->W.cell? ⟨w.heap.size,0,none⟩=some (E (some t))->
   Calls prog 233 #[.iface b c,.iface 235 (E (some t)),.agg #[E (some ⟨12,235,none⟩),E (some ⟨w.heap.size,0,none⟩),.int .u64 150],.iface 289 (.agg #[E (some ⟨12,26,none⟩)])] W
    fun e w'=>(∃r,e=Y (.bool r))/\Q e w'):
  Calls prog 166 #[.iface b c,.iface 235 (E (some t))] w Q:=by
 have a:=d.lt;have p:=@run_callFunc_extern prog 157 _ (fun args=>ReflectliteValue.unpack (args.getD 0 (.tuple #[]))) func157 k7 k7 k7 k7;have q:=@run_callFunc_extern prog 231 _ (ReflectliteValue.methodAny (ReflectliteValue.valueError "reflectlite.Value.Type" 0) (fun t _ _ _=>ReflectliteType.toType t)) func231 k7 k7 k7 k7;have s:=@run_callFunc_extern prog 232 _ (ReflectliteValue.method (ReflectliteValue.valueError "reflectlite.Value.IsNil" 0) ReflectliteValue.isNil) func232 k7 k7 k7 k7;have g:=@run_callFunc_extern prog 328 _ (ReflectliteType.abiMethod fun t=>do pure (.int .u8 (←Rtype.kind t))) func328 k7 k7 k7 k7;have i:=@run_callFunc_extern prog 341 _ (ReflectliteType.method ReflectliteType.elem) func341 k7 k7 k7 k7;have j:=@run_callFunc_extern prog 342 _ (ReflectliteType.relation "Implements" ReflectliteType.implements_) func342 k7 k7 k7 k7;have n:=vP;have o:=tP;have x:=mKind;have u:=mElem;have v:=mImplements;have k27:=kP;have k25:=kE;have f:=elemP;have m:=implementsE;have y:=isNilP ⟨w.heap.size,0,none⟩ t ((w.alloc (R #[E (some t)] 235)).alloc (R #[E (some ⟨12,235,none⟩),E (some ⟨w.heap.size,0,none⟩),.int .u64 150] 208)) s7
 have k:((w.alloc (R #[E (some t)] 235)).alloc (R #[E (some ⟨12,235,none⟩),E (some ⟨w.heap.size,0,none⟩),.int .u64 150] 208)).cell? ⟨6,0,none⟩=some (.iface 289 (.agg #[E (some ⟨12,43,none⟩)])):=by
  rw [eT0 _ (by simp <;> omega),eT0 _ a];exact d
 have H:Hid (∀W:World,Below w.heap.size w W->W.cell? ⟨w.heap.size,0,none⟩=some (E (some t))->
   Calls prog 233 #[.iface b c,.iface 235 (E (some t)),.agg #[E (some ⟨12,235,none⟩),E (some ⟨w.heap.size,0,none⟩),.int .u64 150],.iface 289 (.agg #[E (some ⟨12,26,none⟩)])] W
    fun e w'=>(∃r,e=Y (.bool r))/\Q e w'):=h
 clear h;go_enter func166,ntmps166;go_wp2_with fail;refine (H.out _ ?_ ?_).mono ?_
 ·exact ((aF _ _).alloc lR7 _).alloc s7 _
 ·rw [eT0 _ s7];exact World.cell?_alloc_at _ _ _ _ rfl
 ·rintro e w' ⟨⟨r,rfl⟩,l⟩;go_wp2_with fail;exact l
def jZ1 (w:World) (err:Value) (n k:Int):Prop:=
 (err=.nilIface/\n=0/\k=-1)\/(err=.iface 26 (U G n)/\k=-1)
  \/(∃b o:Nat,err=.iface 215 (E (some ⟨b,o,none⟩))/\w.cell? ⟨b,o,none⟩=some (U G n)/\w.cell? ⟨b,o+1,none⟩=some (U G k))
theorem gV1 {w':World} {t:Addr} {n:Int} {i j:Obj} {d:Value} (e:Below w.heap.size w W) (f:W.cell? t=some d) (g:w'=((W.alloc i).alloc j).setCell t (U G n)) (B:Nat) (a:B<=t.block) (b:B<=w.heap.size):
  w'.cell? t=some (U G n)/\Below B w w':=by
 have c:=cI0 f;have k:=e.size;subst g;refine ⟨World.cell?_setCell_same' _ _ _ ?_,?_⟩
 ·rw [eT0 _ (by simp;omega),eT0 _ c,f];rfl
 ·exact (((e.mono b).alloc o7 _).alloc (by simp;omega) _).setCell a _
theorem uR1 (w:World):Calls prog 115 #[.nilIface] w fun e w'=>e=Y (U G 0)/\w'=w:=by
 go_enter func115,ntmps115;go_wp2;go_ret;exact ⟨rfl,rfl⟩
theorem uS1 (n:Int) (t:Addr) (w:World) (f:ErrT w) (a:w.cell? t=some (U G 0)) (d:w.frozen? t=false):
  Calls prog 166 #[.iface 26 (U G n),.iface 235 (E (some t))] w fun e w'=>e=Y (.bool true)/\w'.cell? t=some (U G n)/\Below t.block w w':=
 eT2 _ _ t w f _ fun W b c=>(uQ1 n t _ (U G 0) W c ((b.cell (cI0 a)).trans a) ((b.frozen (cI0 a)).trans d)).mono fun _ _ ⟨he,hw⟩=>
  have h:=gV1 b ((b.cell (cI0 a)).trans a) hw t.block lR7 (eU (cI0 a))
  ⟨⟨_,he⟩,he,h.1,h.2⟩
theorem hW2 (n:Int) (b o:Nat) (t:Addr) (w:World) (j:ErrT w) (f:w.cell? ⟨b,o,none⟩=some (U G n)) (c:w.cell? t=some (U G 0)) (i:w.frozen? t=false):
  Calls prog 166 #[.iface 215 (E (some ⟨b,o,none⟩)),.iface 235 (E (some t))] w fun e w'=>e=Y (.bool true)/\w'.cell? t=some (U G n)/\Below t.block w w':=
 eT2 _ _ t w j _ fun W d g=>(hV2 n b o t _ (U G 0) W ((d.cell (p:=⟨b,o,none⟩) (cI0 (a:=⟨b,o,none⟩) f)).trans f) g ((d.cell (cI0 c)).trans c) ((d.frozen (cI0 c)).trans i)).mono fun _ _ ⟨he,hw⟩=>
  have h:=gV1 d ((d.cell (cI0 c)).trans c) hw t.block lR7 (eU (cI0 c))
  ⟨⟨_,he⟩,he,h.1,h.2⟩
theorem kA1 (n:Int) (w:World) (c:ErrT w):Calls prog 115 #[.iface 26 (U G n)] w fun e w'=>e=Y (U G n)/\Below w.heap.size w w':=by
 have a:ErrT (w.alloc (R #[U G 0] 26)):=c.below ((aF _ _).alloc lR7 _);go_enter func115,ntmps115;go_wp2_with fail;refine (uS1 n ⟨w.heap.size,0,none⟩ _ a s7 s7).mono ?_;rintro e w1 ⟨rfl,d,b⟩;go_wp2;go_ret;exact ⟨rfl,((aF _ _).alloc lR7 _).trans b⟩
theorem aU2 (n:Int) (b o:Nat) (w:World) (i:ErrT w) (f:w.cell? ⟨b,o,none⟩=some (U G n)):Calls prog 115 #[.iface 215 (E (some ⟨b,o,none⟩))] w fun e w'=>e=Y (U G n)/\Below w.heap.size w w':=by
 have c:ErrT (w.alloc (R #[U G 0] 26)):=i.below ((aF _ _).alloc lR7 _);have d:Hid ((w.alloc (R #[U G 0] 26)).cell? ⟨b,o,none⟩=some (U G n)):=(eT0 (a:=⟨b,o,none⟩) _ (cI0 (a:=⟨b,o,none⟩) f)).trans f;go_enter func115,ntmps115;go_wp2_with fail;refine (hW2 n b o ⟨w.heap.size,0,none⟩ _ c d.out s7 s7).mono ?_;rintro e w1 ⟨rfl,j,g⟩;go_wp2;go_ret;exact ⟨rfl,((aF _ _).alloc lR7 _).trans g⟩
theorem gW1 (a:Value) (n k:Int) (w:World) (c:ErrT w) (h:jZ1 w a n k):Calls prog 115 #[a] w fun e w'=>e=Y (U G n)/\Below w.heap.size w w':=by
 rcases h with ⟨rfl,rfl,rfl⟩ | ⟨rfl,rfl⟩ | ⟨b,o,rfl,h1,d⟩
 ·exact (uR1 w).mono fun _ _ ⟨he,hw⟩=>⟨he,by subst hw;exact aF _ _⟩
 ·exact kA1 n w c
 ·exact aU2 n b o w c h1
theorem hG0 (n:Int) (w:World):
  Calls prog 93 #[U G n] w fun e w'=>e=Y (.agg #[U G n,U G (-1)])/\Below w.heap.size w w':=by
 go_enter func93,ntmps93;go_wp2;go_returns;exact ⟨rfl,by go_grown⟩
end
section
open Go.RowKit
theorem eU2 {a:Value} (h:((tabE rs).2=-1/\a=.iface 26 (U G (tabE rs).1))\/∃b:Nat,a=.iface 215 (E (some ⟨b,0,none⟩))/\w.cell? ⟨b,0,none⟩=some (U G (tabE rs).1)/\w.cell? ⟨b,1,none⟩=some (U G (tabE rs).2)):
  jZ1 w a (tabE rs).1 (tabE rs).2:=by
 rcases h with ⟨h1,c⟩ | ⟨b,h1,c,d⟩
 ·exact aG (aH ⟨c,h1⟩)
 ·exact aG (aG ⟨b,0,h1,c,d⟩)
theorem aV2 (a:Option Addr) (f0:Nat) (l:List Ord) (more:Int) (w:World) (h:dS0 w a l) (hl:l.length<=1000):
  Calls prog 155 #[J a l.length f0,U G more] w fun e w'=>∃v',e=Y v'/\w'.ownsRow w.heap.size 274 3 v' (aS0 l more).length (ptV (aS0 l more))/\Below w.heap.size w w':=by
 obtain ⟨iI,d6,c4,c5,c6⟩:=info_parts infoInt;obtain ⟨iP,f4,f1,f2,f3⟩:=info_parts infoPt;have HA:=hid7 h;clear h;go_enter func155,ntmps155;go_upto_if 16 with fail;go_cut [5] from 15 to 20 (fun v wc=>wc.ownsRow w.heap.size 3 1 v (dM0 l more 0).length (ints (dM0 l more 0))/\Below w.heap.size w wc)
 case first=>
  by_cases hm:0<more
  ·have HM:Hid (dM0 l more 0=[more]):=dD1 hm;go_wp2_with (at_builtin;refine wpList_append_own_at _ rfl _ _ 59 rfl w.heap.size 3 iI (U G 0) 1 8 underlying59 d6 c4 c5 c6 rfl d7 _ 0 [] rfl (aU _ _ _ _) ⟨w.heap.size,0,none⟩ 1 1 [U G more] rfl rfl (bJ (cs:=#[U G more]) (t:=3) (fr:=(0,0)) (heap_alloc_new w _)) (by simp [Value.oneCell']) (by unfold maxLen;omega) o7 s7 ?_;intro v' w6 C f _ _);go_meet;exact ⟨by rw [HM.out];exact C,(bK0 w _).grown f s7 (fun q hq=>by cases hq)⟩
  ·have HM:Hid (dM0 l more 0=[]):=dE1 hm;go_wp2_with fail;go_meet;exact ⟨by rw [HM.out];exact aU _ _ _ _,aF _ _⟩
 case rest=>
  obtain ⟨ho,T⟩:=hcut;have HO:=hid7 ho;have HB:=hid7 T;clear ho T;go_wp2_with fail;go_loopw [5,23] (fun v i wr=>∃k:Nat,k<=l.length/\i=U G k/\wr.ownsRow w.heap.size 3 1 v (dM0 l more k).length (ints (dM0 l more k))/\Below w.heap.size w wr) (fun _ i _=>l.length - (intOf i).toNat)
  case atStart=>exact ⟨0,aO _,rfl,HO.out,HB.out⟩
  case round=>
   obtain ⟨k,hk,rfl,m,T⟩:=hrel;have HW:=hid7 m;have V:=hid7 T;have M:=dF1 l more k hk;obtain ⟨g5,e7,rfl,_,_⟩:=bO0 m;clear HO HB
   by_cases E:k<l.length
   ·have f6:(k:Int)<(l.length:Int):=o7;obtain ⟨b,g4,rfl,d0,d1,d2,d3,d4⟩:=HA.out.below T k E;have HT:=hid7 (zA0 more E);clear m T;generalize oAt l k=o at d0 d1 d2 d3 d4 HT;generalize dM0 l more k=xs at HW HT M;go_wp2_with fail;have hA:=heap_alloc_new wr (R #[U G o.id,U G o.side,U G o.kind,U G o.price,U G o.qty] 92);have K:=bK0 wr (R #[U G o.id,U G o.side,U G o.kind,U G o.price,U G o.qty] 92);generalize wr.alloc (R #[U G o.id,U G o.side,U G o.kind,U G o.price,U G o.qty] 92)=W at hA K ⊢;generalize wr.heap.size=x at hA ⊢;refine (cuOk o W).mono ?_;rintro e w3 ⟨rfl,I⟩;have D:=eX0 hA I;have B:=aV0 K I;have a5:Hid (w3.ownsRow w.heap.size 3 1 (J g5 xs.length e7) xs.length (ints xs)):=cR0 HW.out B lR7;have d:=hid7 (aV0 V.out B);clear hA K I B HW V d0 d1 d2 d3 d4;have e2:=aP0 (j:=2) D rfl;have e3:=aP0 (j:=3) D rfl;clear D;cases hn:eE0 o with
    | true=>
     have b5:okO o=true/\o.kind≠2:=by unfold eE0 at hn;simpa using hn
     have a4:Hid (dM0 l more (k+1)=xs++[o.price]):=by rw [HT.out,aB hn];rfl
     have b4:=aC.2 b5.2;rw [b5.1];clear hn b5 HT;go_wp2_with (at_builtin;refine wpList_append_own_at _ rfl _ _ 59 rfl w.heap.size 3 iI (U G 0) 1 8 underlying59 d6 c4 c5 c6 rfl d7 _ xs.length (ints xs) rfl (a5.out.alloc _) ⟨w3.heap.size,0,none⟩ 1 1 [U G o.price] rfl rfl (bJ (cs:=#[U G o.price]) (t:=3) (fr:=(0,0)) (heap_alloc_new w3 _)) (by simp [Value.oneCell']) (by unfold maxLen;omega) o7 (by have:=d.out.size;simp;omega) ?_;intro v' w6 C f _ _);go_roundw
     case rel=>
      refine ⟨k+1,E,by go_num,?_,(d.out.alloc d.out.size _).grown f (by have:=d.out.size;simp;omega) (fun q hq=>(a5.out.lt q hq).1)⟩;rw [a4.out,lT1,aN,bD];exact C
     case measure=>simp [intOf];omega
    | false=>
     have a4:Hid (dM0 l more (k+1)=xs):=by rw [HT.out,aA (by rw [hn];decide)];rfl
     cases hok:okO o with
     | false=>
      clear hn HT hok;go_wp2_with fail;go_roundw
      case rel=>exact ⟨k+1,E,by go_num,by rw [a4.out];exact a5.out,d.out⟩
      case measure=>simp [intOf];omega
     | true=>
      have b4:o.kind=2:=by unfold eE0 at hn;rw [hok] at hn;simpa using hn
      rw [b4] at e2;clear hn HT hok b4;go_wp2_with fail;go_roundw
      case rel=>exact ⟨k+1,E,by go_num,by rw [a4.out];exact a5.out,d.out⟩
      case measure=>simp [intOf];omega
   ·obtain rfl:k=l.length:=o7;have hx:dM0 l more l.length=bL0 l more:=by unfold dM0;rw [bI]
    rw [hx] at M HW;rw [hx];clear m T hx;have HC:Hid (aS0 l more=(wO0 (gM0 (bL0 l more))).map (ptOf l)):=rfl;generalize bL0 l more=xs at M HW HC ⊢;go_wp2_with fail;refine (eP2 HW.out o7).mono ?_;rintro e w2 ⟨rfl,b6,d5⟩;have c8:Below w.heap.size w w2:=V.out.grown d5 V.out.size (fun q hq=>(HW.out.lt q hq).1);have b2:=hid7 b6;have b0:=hid7 c8;clear b6 d5 c8 HW V;have b7:=hJ0 xs;obtain ⟨ys,e5⟩:∃ys,gM0 xs=ys:=⟨_,rfl⟩;rw [e5] at b2 HC b7;have e0:xs.length=ys.length:=b7.symm;rw [e0] at b2 M ⊢;clear e5 b7 e0;go_wp2_with fail;go_loopw [9,45] (fun v i wr=>∃k:Nat,k<=ys.length/\i=U G k/\wr.ownsRow w2.heap.size 274 3 v (fW0 ys k).length (ptV ((fW0 ys k).map (ptOf l)))/\Below w2.heap.size w2 wr) (fun _ i _=>ys.length - (intOf i).toNat)
    case atStart=>exact ⟨0,aO _,rfl,aU _ _ _ _,aF _ _⟩
    case round=>
     obtain ⟨k,hk,rfl,m,T⟩:=hrel;have a2:=hid7 m;have X:=hid7 T;have h2:=rO0 ys k;obtain ⟨g3,e6,rfl,_,_⟩:=bO0 m
     by_cases E:k<ys.length
     ·have f6:(k:Int)<(ys.length:Int):=o7;have N:=cR0 b2.out T lR7;obtain ⟨g,g6,hv,_,_⟩:=N.form o7;simp only [aY,true_and] at hv;obtain ⟨rfl,rfl⟩:=hv;have c0:wr.cell? ⟨g,k,none⟩=some (U G (ys.getD k 0)):=(N.cellAt k o7).trans (dC1 E);have HU:Hid (fstB ys k=false->fW0 ys (k+1)=fW0 ys k):=sN1;have a0:Hid (fstB ys k=true->fW0 ys (k+1)=fW0 ys k++[ys.getD k 0]):=lU1;have HR:Hid (∀i,i<ys.length->wr.cell? ⟨g,i,none⟩=some (U G (ys.getD i 0))):=fun i hi=>(N.cellAt i o7).trans (dC1 hi)
      clear m T N;obtain ⟨p,hp⟩:∃p,ys.getD k 0=p:=⟨_,rfl⟩;rw [hp] at c0 a0;have c2:=hid7 hp;clear hp;go_upto_region 16 with fail;go_cut [60] from 50 to 60 (fun v wc=>v=.bool (!fstB ys k)/\wc=wr)
      case first=>
       cases k with
       | zero=>
        go_wp2_with fail;go_meet;exact ⟨rfl,rfl⟩
       | succ n=>
        have c1:=HR.out n o7;have g8:(0:Int)<=(n:Int):=o7;have HF:=hid7 (lV1 ys n);clear HU a0 a2;rw [c2.out] at HF;clear c2 HR;generalize ys.getD n 0=p0 at c1 HF
        by_cases d8:p0=p
        ·subst d8;go_wp2_with fail;go_meet;exact ⟨by rw [HF.out];simp,rfl⟩
        ·have f7:=aC.2 d8;go_wp2_with fail;go_meet;exact ⟨by rw [HF.out,f7];rfl,rfl⟩
      case rest=>
       obtain ⟨rfl,rfl⟩:=hcut;cases hf:fstB ys k with
       | false=>
        have a1:=hid7 (HU.out hf);clear HU a0 hf HR c0;go_wp2_with fail;go_roundw
        case rel=>exact ⟨k+1,E,by go_num,by rw [a1.out];exact a2.out,X.out⟩
        case measure=>simp [intOf];omega
       | true=>
        have a1:=hid7 (a0.out hf);rw [Bool.not_true];clear HU a0 hf HR c0;obtain ⟨S,f9⟩:∃S:World,S=wc:=⟨_,rfl⟩;subst f9;go_wp2_with fail;have c7:(S.alloc (R #[U G p,U G 0,U G 0] 274)).heap[S.heap.size]? = some (R #[U G p,U G (demO p (l.take 0)),U G (supO p (l.take 0))] 274 (0,0)):=heap_alloc_new S _;have a6:=hid7 c7;have b1:Hid (Below S.heap.size S (S.alloc (R #[U G p,U G 0,U G 0] 274))):=bK0 S _;clear c7;generalize S.alloc (R #[U G p,U G 0,U G 0] 274)=wx at a6 b1 ⊢;have b9:=hid7 (aV0 b0.out X.out);obtain ⟨xb,a9⟩:∃xb,S.heap.size=xb:=⟨_,rfl⟩;rw [a9] at a6;rw [a9];have a7:=hid7 a9;clear a9;go_loopw [65] (fun i wi=>∃j:Nat,j<=l.length/\i=U G j/\Below S.heap.size S wi/\wi.heap[xb]? = some (R #[U G p,U G (demO p (l.take j)),U G (supO p (l.take j))] 274 (0,0))) (fun i _=>l.length - (intOf i).toNat)
        case atStart=>exact ⟨0,aO _,rfl,b1.out,a6.out⟩
        case round=>
         obtain ⟨j,hj,rfl,a8,F⟩:=hrel;have O:=hid7 a8;have P:=hid7 F;clear a6 b1
         by_cases u:j<l.length
         ·have g7:(j:Int)<(l.length:Int):=o7;obtain ⟨b,g4,rfl,d0,d1,d2,d3,d4⟩:=HA.out.below (aV0 b9.out a8) j u;clear a8 F;have r:Hid (fB0 p (oAt l j)=false->demO p (l.take (j+1))=demO p (l.take j)):=dN2 u;have z:Hid (fB0 p (oAt l j)=true->demO p (l.take (j+1))=demO p (l.take j)+(oAt l j).qty):=zA1 u;have s:Hid (cY0 p (oAt l j)=false->supO p (l.take (j+1))=supO p (l.take j)):=dO2 u;have A:Hid (cY0 p (oAt l j)=true->supO p (l.take (j+1))=supO p (l.take j)+(oAt l j).qty):=zB1 u;have c9:=wM0 p (l.take j);have d9:=wN0 p (l.take j);have f8:(l.take j).length<=1000:=by rw [bF];omega
          generalize oAt l j=o at d0 d1 d2 d3 d4 r z s A;generalize demO p (l.take j)=dd at P r z c9;generalize supO p (l.take j)=ss at P s A d9;generalize (l.take j).length=tl at c9 d9 f8;go_wp2_with fail;have hA:=heap_alloc_new wr (R #[U G o.id,U G o.side,U G o.kind,U G o.price,U G o.qty] 92);have K:=bK0 wr (R #[U G o.id,U G o.side,U G o.kind,U G o.price,U G o.qty] 92);have g0:=lt_of_block P.out;generalize wr.alloc (R #[U G o.id,U G o.side,U G o.kind,U G o.price,U G o.qty] 92)=W at hA K ⊢;refine (cuOk o W).mono ?_;rintro e w3 ⟨rfl,I⟩;have D:=eX0 hA I;have B:=aV0 K I;have Q:=eX0 P.out B;have d:=hid7 (O.out.trans (B.mono O.out.size));clear hA K I B P O d0 d1 d2 d3 d4;generalize wr.heap.size=y at D g0 ⊢;have e1:=aP0 (j:=1) D rfl;have e2:=aP0 (j:=2) D rfl;have e3:=aP0 (j:=3) D rfl;have e4:=aP0 (j:=4) D rfl;have x1:=aP0 (j:=1) Q rfl;have x2:=aP0 (j:=2) Q rfl;have g1:=cD0 (j:=1) Q;have g2:=cD0 (j:=2) Q;have H:=hid7 Q;have n1:¬y=xb:=o7;have n2:¬xb=y:=o7;clear Q D;cases hok:okO o with
          | false=>
           have Z:=hid7 (r.out (sO1 hok));have HS:=hid7 (s.out (lW1 hok));clear hok r z s A;go_wp2_with fail;go_roundw
           case rel=>exact ⟨j+1,u,by go_num,d.out,by rw [Z.out,HS.out];exact H.out⟩
           case measure=>simp [intOf];omega
          | true=>
           obtain ⟨⟨h1,b6⟩,g9,h0⟩:=kW0 hok
           by_cases hs:o.side=1
           ·have HS:=hid7 (s.out (iT1 hs));rw [hs] at e1
            by_cases c:o.kind=2
            ·have Z:=hid7 (z.out (zC1 hok hs c));rw [c] at e2;clear hok r z s A hs c;go_wp2_with fail;go_roundw
             case rel=>exact ⟨j+1,u,by go_num,d.out.setCell (dA a7.out) _,by rw [Z.out,HS.out];exact eF0 (j:=1) _ H.out⟩
             case measure=>simp [intOf];omega
            ·have f5:=aC.2 c
             by_cases hp:p<=o.price
             ·have Z:=hid7 (z.out (sQ1 hok hs hp));clear hok r z s A hs c;go_wp2_with fail;go_roundw
              case rel=>exact ⟨j+1,u,by go_num,d.out.setCell (dA a7.out) _,by rw [Z.out,HS.out];exact eF0 (j:=1) _ H.out⟩
              case measure=>simp [intOf];omega
             ·have Z:=hid7 (r.out (sR1 c hp));clear hok r z s A hs c;go_wp2_with fail;go_roundw
              case rel=>exact ⟨j+1,u,by go_num,d.out,by rw [Z.out,HS.out];exact H.out⟩
              case measure=>simp [intOf];omega
           ·have L:o.side=2:=o7;have Z:=hid7 (r.out (lX1 L));rw [L] at e1
            by_cases c:o.kind=2
            ·have HS:=hid7 (A.out (sP1 hok L c));rw [c] at e2;clear hok r z s A hs c L;go_wp2_with fail;go_roundw
             case rel=>exact ⟨j+1,u,by go_num,d.out.setCell (dA a7.out) _,by rw [Z.out,HS.out];exact eF0 (j:=2) _ H.out⟩
             case measure=>simp [intOf];omega
            ·have f5:=aC.2 c
             by_cases hp:o.price<=p
             ·have HS:=hid7 (A.out (lY1 hok L hp));clear hok r z s A hs c L;go_wp2_with fail;go_roundw
              case rel=>exact ⟨j+1,u,by go_num,d.out.setCell (dA a7.out) _,by rw [Z.out,HS.out];exact eF0 (j:=2) _ H.out⟩
              case measure=>simp [intOf];omega
             ·have HS:=hid7 (s.out (lZ1 c hp));clear hok r z s A hs c L;go_wp2_with fail;go_roundw
              case rel=>exact ⟨j+1,u,by go_num,d.out,by rw [Z.out,HS.out];exact H.out⟩
              case measure=>simp [intOf];omega
         ·obtain rfl:j=l.length:=o7;rw [bI] at F;clear P a8;obtain ⟨dd,b3⟩:∃dd,demO p l=dd:=⟨_,rfl⟩;obtain ⟨ss,b8⟩:∃ss,supO p l=ss:=⟨_,rfl⟩;rw [b3,b8] at F;have e9:Hid (ptOf l p=⟨p,dd,ss⟩):=by unfold ptOf;rw [b3,b8];rfl
          clear b3 b8;have x0:=aP0 (j:=0) F rfl;have x1:=aP0 (j:=1) F rfl;have x2:=aP0 (j:=2) F rfl;clear F;have c3:Hid (wr.ownsRow w2.heap.size 274 3 (J g3 (fW0 ys k).length e6) (fW0 ys k).length (ptV ((fW0 ys k).map (ptOf l)))):=cR0 a2.out O.out lR7;have a3:=hid7 (aV0 X.out O.out);clear a2 O X b9;have HM:Hid (ptV ((fW0 ys (k+1)).map (ptOf l))=ptV ((fW0 ys k).map (ptOf l))++[U G p,U G dd,U G ss]):=by rw [a1.out,List.map_append,List.map_singleton,e9.out,qP0];rfl
          have e8:Hid ((fW0 ys (k+1)).length=(fW0 ys k).length+1):=by rw [a1.out,aN,bD];rfl
          clear a1;go_wp2_with (at_builtin;refine wpList_append_own_at _ rfl _ _ 201 rfl w2.heap.size 274 iP (.agg #[U G 0,U G 0,U G 0]) 3 24 underlying201 f4 f1 f2 f3 rfl d7 _ (fW0 ys k).length (ptV ((fW0 ys k).map (ptOf l))) rfl (c3.out.alloc _) ⟨wr.heap.size,0,none⟩ 1 1 [U G p,U G dd,U G ss] rfl rfl (bJ (cs:=#[U G p,U G dd,U G ss]) (t:=274) (fr:=(0,0)) (heap_alloc_new wr _)) (by simp [Value.oneCell']) (by unfold maxLen;omega) o7 (by have:=a3.out.size;simp;omega) ?_;intro v' w6 C f _ _);go_roundw
          case rel=>
           refine ⟨k+1,E,by go_num,?_,(a3.out.alloc a3.out.size _).grown f (by have:=a3.out.size;simp;omega) (fun q hq=>(c3.out.lt q hq).1)⟩;rw [HM.out,e8.out];exact C
          case measure=>simp [intOf];omega
     ·obtain rfl:k=ys.length:=o7;clear m T;go_wp2_with fail;go_ret;refine ⟨_,rfl,?_,aV0 b0.out X.out⟩;rw [HC.out,List.length_map];exact bW0 a2.out b0.out.size
theorem uT1 (n:Int) (w:World) (h:-9000000000000000000<=n):
  Calls prog 213 #[U G n] w fun e w'=>e=Y (U G (absI n))/\w'=w:=by
 by_cases b:n<0
 ·have a:Hid (absI n=-n):=aB b;go_enter func213,ntmps213;go_wp2;go_ret;exact ⟨by rw [a.out];rfl,rfl⟩
 ·have a:Hid (absI n=n):=aA b;go_enter func213,ntmps213;go_wp2;go_ret;exact ⟨by rw [a.out];rfl,rfl⟩
theorem rA0 (x:Pt) (w:World):
  Calls prog 212 #[.agg #[U G x.price,U G x.dem,U G x.sup]] w fun e w'=>e=Y (U G (trB x))/\Below w.heap.size w w':=by
 have a:Hid (trB x=min x.dem x.sup):=rfl;go_enter func212,ntmps212;go_wp2;go_ret;exact ⟨by rw [a.out];first | rfl | (congr 2;omega),bK0 w _⟩
def mL0 (w:World) (b:Nat) (x:Pt):Prop:=w.heap[b]? = some (R #[U G x.price,U G x.dem,U G x.sup] 274 (0,0))
theorem mL0.below {w w':World} {b:Nat} {x:Pt} (h:mL0 w b x) (a:aL0 w w'):mL0 w' b x:=eX0 h a
theorem oP1 {m:Int} {s:Int×Bool} {x:Pt} (h:¬(trB x=m/\(s.2=false\/lfB x<s.1))):fC0 m s x=s:=aA h
theorem uU1 {m:Int} {s:Int×Bool} {x:Pt} (h:trB x=m/\(s.2=false\/lfB x<s.1)):fC0 m s x=(lfB x,true):=aB h
theorem xP0 {x:Pt} (h:mL0 w b x) (y:Pt):mL0 (((w.setCell ⟨b,0,none⟩ (U G y.price)).setCell ⟨b,1,none⟩ (U G y.dem)).setCell ⟨b,2,none⟩ (U G y.sup)) b y:=
 eF0 (j:=2) _ (eF0 (j:=1) _ (eF0 (j:=0) (U G y.price) h))
theorem rB0 {b s:Bool} {around:Int} {p x:Pt} (h:gN0 b s around p x=true):wP0 b s around x p=p:=aB h
theorem xQ0 {b s:Bool} {around:Int} {p x:Pt} (h:gN0 b s around p x=false):wP0 b s around x p=x:=aA (by rw [h];decide)
theorem uV1 (a:Option Addr) (i3:Nat) (l:List Pt) (around:Int) (w:World) (h:kL0 w a l) (hl:l.length<=1000) (hs:∀x∈l,x.Small) (k4:-1099511627776<=around) (k5:around<=1099511627776):
  Calls prog 154 #[J a l.length i3,U G around] w fun e w'=>e=Y (.agg #[U G (aO0 l around).price,U G (aO0 l around).qty,U G (aO0 l around).sur])/\aL0 w w':=by
 obtain ⟨iP,j0,i5,i6,i7⟩:=info_parts infoPt;have HA:Hid (kL0 w a l):=h;have HS:Hid (∀x∈l,x.Small):=hs;clear h hs;go_enter func154,ntmps154;go_wp2_with fail;have g3:iL0 (w.alloc (R #[U G 0,U G 0,U G 0] 107)) w.heap.size:=heap_alloc_new w _;have f8:=bK0 w (R #[U G 0,U G 0,U G 0] 107);have e0:Hid (iL0 (w.alloc (R #[U G 0,U G 0,U G 0] 107)) w.heap.size):=g3;have d3:Hid (aL0 w (w.alloc (R #[U G 0,U G 0,U G 0] 107))):=f8;clear g3 f8;generalize w.alloc (R #[U G 0,U G 0,U G 0] 107)=w0 at e0 d3 ⊢;go_loopw [6,27] (fun v i wr=>∃k:Nat,k<=l.length/\i=U G k/\v=U G (cP0 (l.take k))/\aL0 w wr/\iL0 wr w.heap.size) (fun _ i _=>l.length - (intOf i).toNat)
 case atStart=>exact ⟨0,aO _,rfl,rfl,d3,e0⟩
 case round=>
  obtain ⟨k,hk,rfl,rfl,T,hq⟩:=hrel;clear e0 d3;have HB:Hid (aL0 w wr):=T;have O:Hid (iL0 wr w.heap.size):=hq;clear hq
  by_cases u:k<l.length
  ·have g0:(k:Int)<(l.length:Int):=o7;obtain ⟨b,g7,rfl,d0,d1,d2⟩:=HA.below T k u;have I:Hid (cP0 (l.take (k+1))=max (cP0 (l.take k)) (trB (ptAt l k))):=iK1 u;clear T;generalize ptAt l k=x at d0 d1 d2 I;generalize cP0 (l.take k)=m at I ⊢;go_wp2_with fail;refine (rA0 x _).mono ?_;rintro e Z ⟨rfl,f9⟩;have D:=aV0 (bK0 wr (R #[U G x.price,U G x.dem,U G x.sup] 274)) f9;have h6:Hid (aL0 w Z):=aV0 HB D;have b6:Hid (iL0 Z w.heap.size):=O.below D;clear f9 D HB O d0 d1 d2;go_wp2_with fail;go_roundw
   case rel=>exact ⟨k+1,u,by go_num,by rw [I.out],h6,b6⟩
   case measure=>simp [intOf];omega
  ·obtain rfl:k=l.length:=o7;rw [bI];clear T;have b4:Hid (cP0 l<1->aO0 l around=⟨0,0,0⟩):=fun h=>aB h
   have S:Hid (¬cP0 l<1->aO0 l around=quoP (jP0 l around)):=fun h=>aA h
   have b3:Hid (1<=cP0 l->0<(eI0 (cP0 l) (dP0 (cP0 l) l).1 l).length):=rU0;have b5:Hid (jP0 l around=iJ1 (hK0 (eI0 (cP0 l) (dP0 (cP0 l) l).1 l)) (dV0 (eI0 (cP0 l) (dP0 (cP0 l) l).1 l)) around (eI0 (cP0 l) (dP0 (cP0 l) l).1 l)):=rfl;have j1:=sK1 HS;generalize cP0 l=m at b4 S b3 b5 j1 ⊢
   by_cases hm:m<1
   ·have HC:Hid (aO0 l around=⟨0,0,0⟩):=b4 hm;have z0:=cD0 (j:=0) O;have z1:=cD0 (j:=1) O;have z2:=cD0 (j:=2) O;have q0:=aP0 (j:=0) O rfl;have q1:=aP0 (j:=1) O rfl;have q2:=aP0 (j:=2) O rfl;clear b4 S b3 b5;go_wp2_with fail;refine bodyPost_ret (by simp [results,results154,go_sem,q0,q1,q2];try rfl) rfl ?_;refine ⟨by rw [HC.out],?_⟩;exact ((HB.setCell lR7 _).setCell lR7 _).setCell lR7 _
   ·have HC:Hid (aO0 l around=quoP (jP0 l around)):=S hm;have a4:=b3 o7;rw [b5.out] at HC;clear b4 S b3 b5;go_wp2_with fail;obtain ⟨w1,j5⟩:∃w1:World,w1=wr:=⟨_,rfl⟩;subst j5;go_loopw [7,10,42] (fun v c i wr=>∃k:Nat,k<=l.length/\i=U G k/\v=U G (dP0 m (l.take k)).1/\c=.bool (dP0 m (l.take k)).2/\aL0 w wr/\iL0 wr w.heap.size) (fun _ _ i _=>l.length - (intOf i).toNat)
    case atStart=>exact ⟨0,aO _,rfl,rfl,rfl,HB,O⟩
    case round=>
     obtain ⟨k,hk,rfl,rfl,rfl,T,hq⟩:=hrel;clear HB O;have HB:Hid (aL0 w wr):=T;have O:Hid (iL0 wr w.heap.size):=hq;clear hq
     by_cases u:k<l.length
     ·have g0:(k:Int)<(l.length:Int):=o7;obtain ⟨b,g7,rfl,d0,d1,d2⟩:=HA.below T k u;have I:Hid (dP0 m (l.take (k+1))=fC0 m (dP0 m (l.take k)) (ptAt l k)):=cW1 m u;obtain ⟨e5,e6,e7⟩:=HS _ (cS0 u);clear T a4;generalize ptAt l k=x at d0 d1 d2 I e5 e6 e7;generalize dP0 m (l.take k)=s at I ⊢;obtain ⟨n,c⟩:=s;dsimp only;go_wp2_with fail;have hX:=heap_alloc_new wr (R #[U G x.price,U G x.dem,U G x.sup] 274);have A:=bK0 wr (R #[U G x.price,U G x.dem,U G x.sup] 274);generalize wr.alloc (R #[U G x.price,U G x.dem,U G x.sup] 274)=W at hX A ⊢;generalize wr.heap.size=xb at hX ⊢;have a2:Hid (lfB x=absI (x.dem - x.sup)):=rfl;refine (uT1 _ _ o7).mono ?_;rintro e Z ⟨rfl,e4⟩;subst e4;rw [<-a2.out];have x0:=aP0 (j:=0) hX rfl;have x1:=aP0 (j:=1) hX rfl;have x2:=aP0 (j:=2) hX rfl;go_wp2_with fail;refine (rA0 x _).mono ?_;rintro e w4 ⟨rfl,D⟩;have C:Hid (aL0 w w4):=aV0 HB (aV0 A D);have b7:Hid (iL0 w4 w.heap.size):=O.below (aV0 A D);clear D HB O d0 d1 d2 x0 x1 x2 hX A a2
      by_cases ht:trB x=m
      ·by_cases X:c=false\/lfB x<n
       ·have o:Hid (dP0 m (l.take (k+1))=(lfB x,true)):=I.trans (uU1 ⟨ht,X⟩);rw [ht];clear I;cases c with
        | false=>
         clear X;go_wp2_with fail;go_roundw
         case rel=>exact ⟨k+1,u,by go_num,by rw [o.out],by rw [o.out],C,b7⟩
         case measure=>simp [intOf];omega
        | true=>
         have i8:lfB x<n:=by
          rcases X with X | X
          ·cases X
          ·exact X
         clear X;go_wp2_with fail;go_roundw
         case rel=>exact ⟨k+1,u,by go_num,by rw [o.out],by rw [o.out],C,b7⟩
         case measure=>simp [intOf];omega
       ·have o:Hid (dP0 m (l.take (k+1))=(n,c)):=I.trans (oP1 (fun e=>X e.2));rw [ht];clear I;cases c with
        | false=>exact absurd (aH rfl) X
        | true=>
         have i8:¬lfB x<n:=fun e=>X (aG e)
         clear X;go_wp2_with fail;go_roundw
         case rel=>exact ⟨k+1,u,by go_num,by rw [o.out],by rw [o.out],C,b7⟩
         case measure=>simp [intOf];omega
      ·have o:Hid (dP0 m (l.take (k+1))=(n,c)):=I.trans (oP1 (fun e=>ht e.1));have g4:(trB x == m)=false:=aC.2 ht;clear I;go_wp2_with fail;go_roundw
       case rel=>exact ⟨k+1,u,by go_num,by rw [o.out],by rw [o.out],C,b7⟩
       case measure=>simp [intOf];omega
     ·obtain rfl:k=l.length:=o7;rw [bI];clear T;generalize (dP0 m l).1=n at HC a4 ⊢;generalize (dP0 m l).2=c;obtain ⟨w2,j6⟩:∃w2:World,w2=wr:=⟨_,rfl⟩;subst j6;go_wp2_with fail;go_loopw [14,15,16,70] (fun v x y i wr=>∃k:Nat,k<=l.length/\i=U G k/\x=.bool (hK0 (eI0 m n (l.take k)))/\y=.bool (dV0 (eI0 m n (l.take k)))/\wr.ownsRow w2.heap.size 274 3 v (eI0 m n (l.take k)).length (ptV (eI0 m n (l.take k)))/\aL0 w2 wr) (fun _ _ _ i _=>l.length - (intOf i).toNat)
      case atStart=>exact ⟨0,aO _,rfl,rfl,rfl,aU _ _ _ _,aF _ _⟩
      case round=>
       obtain ⟨k,hk,rfl,rfl,rfl,b0,T⟩:=hrel;have HW:Hid (wr.ownsRow w2.heap.size 274 3 u14 (eI0 m n (l.take k)).length (ptV (eI0 m n (l.take k)))):=b0;have a5:Hid (aL0 w2 wr):=T
       have e3:(eI0 m n (l.take k)).length<=1000:=by
        have:=List.length_filter_le (nK0 m n) (l.take k);rw [bF] at this;unfold eI0;omega
       obtain ⟨g9,c9,rfl,_,_⟩:=bO0 b0;clear b0
       by_cases u:k<l.length
       ·have g0:(k:Int)<(l.length:Int):=o7;obtain ⟨b,g7,rfl,d0,d1,d2⟩:=HA.below (aV0 HB T) k u;have I:Hid (eI0 m n (l.take (k+1))=if nK0 m n (ptAt l k)=true then eI0 m n (l.take k)++[ptAt l k] else eI0 m n (l.take k)):=iL1 m n u;obtain ⟨e5,e6,e7⟩:=HS _ (cS0 u);clear T a4;generalize ptAt l k=x at d0 d1 d2 I e5 e6 e7;generalize eI0 m n (l.take k)=acc at I HW e3 ⊢;go_wp2_with fail;have hX:mL0 (wr.alloc (R #[U G x.price,U G x.dem,U G x.sup] 274)) wr.heap.size x:=heap_alloc_new wr _;have A:=bK0 wr (R #[U G x.price,U G x.dem,U G x.sup] 274);generalize wr.alloc (R #[U G x.price,U G x.dem,U G x.sup] 274)=W at hX A ⊢;have d6:Hid (∀q,(Value.slice g9 acc.length c9).ownBlock=some q->q<wr.heap.size):=fun q hq=>(HW.lt q hq).2
        generalize wr.heap.size=xb at hX d6 ⊢;refine (rA0 x _).mono ?_;rintro e w4 ⟨rfl,D⟩;have f7:=hX.below D;have a7:Hid (w4.ownsRow w2.heap.size 274 3 (J g9 acc.length c9) acc.length (ptV acc)):=cR0 HW (aV0 A D) lR7;have C:Hid (aL0 w2 w4):=aV0 a5 (aV0 A D);have P:Hid (mL0 w4 xb x):=f7;clear hX A D HW a5 d0 d1 d2 f7
        by_cases ht:trB x=m
        ·have y0:=aP0 (j:=0) P rfl;have y1:=aP0 (j:=1) P rfl;have y2:=aP0 (j:=2) P rfl;have a2:Hid (lfB x=absI (x.dem - x.sup)):=rfl;rw [ht];go_wp2_with fail;refine (uT1 _ _ o7).mono ?_;rintro e w5 ⟨rfl,j7⟩;subst j7;rw [<-a2.out]
         by_cases hn:lfB x=n
         ·have N:nK0 m n x=true:=by unfold nK0;simp [ht,hn]
          have o:Hid (eI0 m n (l.take (k+1))=acc++[x]):=by rw [I.out,aB N];rfl
          have f3:Hid (hK0 (acc++[x])=(hK0 acc&& decide (x.sup<x.dem))):=iM1 acc x;have f6:Hid (dV0 (acc++[x])=(dV0 acc&& decide (x.dem<x.sup))):=cX1 acc x;rw [hn];clear I N hn ht a2;go_upto_region 25 with (at_builtin;refine wpList_append_own_at _ rfl _ _ 201 rfl w2.heap.size 274 iP (.agg #[U G 0,U G 0,U G 0]) 3 24 underlying201 j0 i5 i6 i7 rfl d7 _ acc.length (ptV acc) rfl (a7.out.alloc _) ⟨w5.heap.size,0,none⟩ 1 1 [U G x.price,U G x.dem,U G x.sup] rfl rfl (bJ (cs:=#[U G x.price,U G x.dem,U G x.sup]) (t:=274) (fr:=(0,0)) (heap_alloc_new w5 _)) (by simp [Value.oneCell']) (by unfold maxLen;omega) o7 (by have:=C.out.size;simp;omega) ?_;intro v' w6 b1 M _ _);have e2:mL0 w6 xb x:=(M.block xb (by have:=lt_of_block P;simp;omega) (fun e=>by have:=d6 xb e.symm;omega)).trans ((bK0 w5 _).block xb (lt_of_block P) |>.trans P);have a1:Hid (aL0 w2 w6):=(C.alloc C.size _).grown M (by have:=C.size;simp;omega) (fun q hq=>(a7.lt q hq).1)
          have i2:Hid (w6.ownsRow w2.heap.size 274 3 v' (eI0 m n (l.take (k+1))).length (ptV (eI0 m n (l.take (k+1))))):=by
           rw [o.out,qP0,aN,bD];exact b1
          clear b1 M y0 y1 y2 C a7 d6 P;have z1:=aP0 (j:=1) e2 rfl;have z2:=aP0 (j:=2) e2 rfl;clear e2;have c7:Hid (hK0 (eI0 m n (l.take (k+1)))=(hK0 acc&& decide (x.sup<x.dem))):=by rw [o.out];exact f3
          have c8:Hid (dV0 (eI0 m n (l.take (k+1)))=(dV0 acc&& decide (x.dem<x.sup))):=by rw [o.out];exact f6
          clear f3 f6 o;generalize hK0 acc=bb at c7 ⊢;generalize dV0 acc=sb at c8 ⊢;cases bb <;> cases sb
          all_goals
           go_wp2_with fail;go_roundw
           case rel=>exact ⟨k+1,u,by go_num,by rw [c7.out];simp,by rw [c8.out];simp,i2,a1⟩
           case measure=>simp [intOf];omega
         ·have j2:(lfB x == n)=false:=aC.2 hn;have N:nK0 m n x=false:=by unfold nK0;rw [j2];simp
          have o:Hid (eI0 m n (l.take (k+1))=acc):=by rw [I.out,aA (by rw [N];decide)];rfl
          clear I N hn ht a2 y0 y1 y2;go_wp2_with fail;go_roundw
          case rel=>exact ⟨k+1,u,by go_num,by rw [o.out],by rw [o.out],by rw [o.out];exact a7,C⟩
          case measure=>simp [intOf];omega
        ·have g4:(trB x == m)=false:=aC.2 ht;have N:nK0 m n x=false:=by unfold nK0;rw [g4];rfl
         have o:Hid (eI0 m n (l.take (k+1))=acc):=by rw [I.out,aA (by rw [N];decide)];rfl
         clear I N ht;go_wp2_with fail;go_roundw
         case rel=>exact ⟨k+1,u,by go_num,by rw [o.out],by rw [o.out],by rw [o.out];exact a7,C⟩
         case measure=>simp [intOf];omega
       ·obtain rfl:k=l.length:=o7;rw [bI] at HW e3;rw [bI];clear T;have e1:Hid (∀y∈eI0 m n l,y.Small):=fun y hy=>HS y (List.mem_filter.1 hy).1
        generalize eI0 m n l=best at HW e3 HC a4 e1 ⊢;have f5:Hid (iJ1 (hK0 best) (dV0 best) around best=gO0 (hK0 best) (dV0 best) around best best.length):=(rR0 _ _ _ _).symm;have d8:Hid (∀k,k<=best.length->gO0 (hK0 best) (dV0 best) around best k∈best):=rV0 _ _ around a4;have d9:Hid (∀k,k<best.length->gO0 (hK0 best) (dV0 best) around best (k+1)=wP0 (hK0 best) (dV0 best) around (gO0 (hK0 best) (dV0 best) around best k) (ptAt best k)):=fun k hk=>oW0 hk
        have a6:Hid (gO0 (hK0 best) (dV0 best) around best 0=ptAt best 0):=rfl;rw [f5.out] at HC;generalize hK0 best=by_ at HC d8 d9 a6 ⊢;generalize dV0 best=se_ at HC d8 d9 a6 ⊢;clear f5;obtain ⟨g,j9,hv,c0,c1,c2⟩:=fH1 HW a4;simp only [aY,true_and] at hv;obtain ⟨rfl,rfl⟩:=hv;rw [eN] at c0;rw [eN,bT] at c1 c2;have k2:(0:Int)<(best.length:Int):=o7;generalize ptAt best 0=p0 at c0 c1 c2 a6;go_wp2_with fail;have g6:mL0 (wr.alloc (R #[U G p0.price,U G p0.dem,U G p0.sup] 274)) wr.heap.size p0:=heap_alloc_new wr _;have b8:Hid (mL0 (wr.alloc (R #[U G p0.price,U G p0.dem,U G p0.sup] 274)) wr.heap.size (gO0 by_ se_ around best 0)):=by rw [a6.out];exact g6
        have d4:Hid (aL0 wr (wr.alloc (R #[U G p0.price,U G p0.dem,U G p0.sup] 274))):=bK0 wr _;clear g6 c0 c1 c2 a6;generalize wr.alloc (R #[U G p0.price,U G p0.dem,U G p0.sup] 274)=wx at b8 d4 ⊢;obtain ⟨Z,e4⟩:∃Z:World,Z=wr:=⟨_,rfl⟩;subst e4;have h8:Hid (aL0 w Z):=aV0 HB a5;have b6:Hid (iL0 Z w.heap.size):=O.below a5;obtain ⟨xb,c5⟩:∃xb,Z.heap.size=xb:=⟨_,rfl⟩;rw [c5] at b8;rw [c5];have B:Hid (Z.heap.size=xb):=c5;clear c5 HB a5 O;go_loopw [115] (fun i wi=>∃j:Nat,j<=best.length/\i=U G j/\mL0 wi xb (gO0 by_ se_ around best j)/\aL0 Z wi) (fun i _=>best.length - (intOf i).toNat)
        case atStart=>exact ⟨0,aO _,rfl,b8,d4⟩
        case round=>
         obtain ⟨j,hj,rfl,Q,a3⟩:=hrel;have a8:Hid (mL0 wr xb (gO0 by_ se_ around best j)):=Q;have f4:Hid (aL0 Z wr):=a3;have e8:=e1 _ (d8 j hj);clear b8 d4
         by_cases E:j<best.length
         ·have k3:(j:Int)<(best.length:Int):=o7;obtain ⟨g',i4,hv,d0,d1,d2⟩:=fH1 (cR0 HW a3 lR7) E;simp only [aY,Option.some.injEq,Addr.mk.injEq,true_and,and_true] at hv;obtain ⟨hg,X⟩:=hv;subst hg X;have g1:=e1 _ (cS0 E);have f:Hid (gO0 by_ se_ around best (j+1)=wP0 by_ se_ around (gO0 by_ se_ around best j) (ptAt best j)):=d9 j E;clear Q a3;generalize gO0 by_ se_ around best j=x at a8 e8 f;generalize ptAt best j=p at d0 d1 d2 g1 f;obtain ⟨⟨h2,h3⟩,⟨h0,h1⟩,⟨h4,h5⟩⟩:=e8;obtain ⟨⟨k9,l0⟩,⟨k6,k8⟩,⟨l1,l2⟩⟩:=g1;go_upto_region 32 with fail;have b9:mL0 (wr.alloc (R #[U G p.price,U G p.dem,U G p.sup] 274)) wr.heap.size p:=heap_alloc_new wr _;have A:=bK0 wr (R #[U G p.price,U G p.dem,U G p.sup] 274);have j8:xb<wr.heap.size:=lt_of_block a8.out;generalize wr.alloc (R #[U G p.price,U G p.dem,U G p.sup] 274)=W at b9 A ⊢;generalize wr.heap.size=yb at b9 j8 ⊢;have r:Hid (mL0 W xb x):=a8.out.below A;have a0:Hid (aL0 Z W):=aV0 f4.out A;have L:Hid (mL0 W yb p):=b9;clear b9 A a8 f4 d0 d1 d2;have n1:¬yb=xb:=o7;have n2:¬xb=yb:=o7;cases by_ with
          | true=>
           have y0:=aP0 (j:=0) L rfl;have y1:=aP0 (j:=1) L rfl;have y2:=aP0 (j:=2) L rfl;have x0:=aP0 (j:=0) r rfl;have x1:=aP0 (j:=1) r rfl;have x2:=aP0 (j:=2) r rfl;have f0:=cD0 (j:=0) r;have f1:=cD0 (j:=1) r;have f2:=cD0 (j:=2) r
           by_cases hp:x.price<p.price
           ·have z:Hid (gO0 true se_ around best (j+1)=p):=f.trans (rB0 (by unfold gN0;simp [hp]));clear f;go_wp2_with fail;go_roundw
            case rel=>exact ⟨j+1,E,by go_num,by rw [z.out];exact xP0 r.out p,((a0.out.setCell (dA B.out) _).setCell (dA B.out) _).setCell (dA B.out) _⟩
            case measure=>simp [intOf];omega
           ·have z:Hid (gO0 true se_ around best (j+1)=x):=f.trans (xQ0 (by unfold gN0;simp [hp]));clear f;go_wp2_with fail;go_roundw
            case rel=>exact ⟨j+1,E,by go_num,by rw [z.out];exact r,a0⟩
            case measure=>simp [intOf];omega
          | false=>
           cases se_ with
           | true=>
            have y0:=aP0 (j:=0) L rfl;have y1:=aP0 (j:=1) L rfl;have y2:=aP0 (j:=2) L rfl;have x0:=aP0 (j:=0) r rfl;have x1:=aP0 (j:=1) r rfl;have x2:=aP0 (j:=2) r rfl;have f0:=cD0 (j:=0) r;have f1:=cD0 (j:=1) r;have f2:=cD0 (j:=2) r
            by_cases hp:p.price<x.price
            ·have z:Hid (gO0 false true around best (j+1)=p):=f.trans (rB0 (by unfold gN0;simp [hp]));clear f;go_wp2_with fail;go_roundw
             case rel=>exact ⟨j+1,E,by go_num,by rw [z.out];exact xP0 r.out p,((a0.out.setCell (dA B.out) _).setCell (dA B.out) _).setCell (dA B.out) _⟩
             case measure=>simp [intOf];omega
            ·have z:Hid (gO0 false true around best (j+1)=x):=f.trans (xQ0 (by unfold gN0;simp [hp]));clear f;go_wp2_with fail;go_roundw
             case rel=>exact ⟨j+1,E,by go_num,by rw [z.out];exact r,a0⟩
             case measure=>simp [intOf];omega
           | false=>
            have k0:=cell_regrown (aP0 (j:=0) L rfl);have k1:=cell_regrown (aP0 (j:=0) r rfl);have H:Hid (gN0 false false around p x=(decide (absI (p.price - around)<absI (x.price - around)) || ((absI (p.price - around) == absI (x.price - around))&& decide (p.price<x.price)))):=rfl;have cA:∀dq os,Calls prog 213 #[U G (p.price - around)] (Go.Sort.grow (redrawn W dq) os) fun e e9=>e=Y (U G (absI (p.price - around)))/\∃q:Regrown,e9=Go.Sort.grow (redrawn W q.d) q.os:=fun dq os=>Calls.regrown_of ((uT1 _ _ o7).mono fun e w' ⟨he,hw⟩=>⟨he,by rw [hw];exact aF _ _⟩)
            have cX:∀dq os,Calls prog 213 #[U G (x.price - around)] (Go.Sort.grow (redrawn W dq) os) fun e e9=>e=Y (U G (absI (x.price - around)))/\∃q:Regrown,e9=Go.Sort.grow (redrawn W q.d) q.os:=fun dq os=>Calls.regrown_of ((uT1 _ _ o7).mono fun e w' ⟨he,hw⟩=>⟨he,by rw [hw];exact aF _ _⟩)
            generalize absI (p.price - around)=aP at H cA;generalize absI (x.price - around)=aX at H cX;go_wp2_with fail;refine wp_region_quiet_below k7 k7 ?_
            repeat (go_big_quiet_step (first | exact cA _ _ | exact cX _ _))
            refine wpQuiet_nil ?_;intro _ j4;obtain ⟨⟨dq,g8⟩,g5⟩:=j4;subst g5;have a9:=below_regrown W dq g8;generalize Go.Sort.grow (redrawn W dq) g8=V at a9 ⊢;have K:Hid (mL0 V xb x):=r.below a9;have a1:Hid (aL0 Z V):=aV0 a0 a9;have c3:=L.below a9;clear k0 k1 cA cX a9 r a0 L;have y0:=aP0 (j:=0) c3 rfl;have y1:=aP0 (j:=1) c3 rfl;have y2:=aP0 (j:=2) c3 rfl;have x0:=aP0 (j:=0) K rfl;have x1:=aP0 (j:=1) K rfl;have x2:=aP0 (j:=2) K rfl;have f0:=cD0 (j:=0) K;have f1:=cD0 (j:=1) K;have f2:=cD0 (j:=2) K;clear c3
            by_cases hp:aP<aX
            ·have z:Hid (gO0 false false around best (j+1)=p):=f.trans (rB0 (by rw [H.out];simp [hp]));clear f H;go_wp2_with fail;go_roundw
             case rel=>exact ⟨j+1,E,by go_num,by rw [z.out];exact xP0 K.out p,((a1.out.setCell (dA B.out) _).setCell (dA B.out) _).setCell (dA B.out) _⟩
             case measure=>simp [intOf];omega
            ·by_cases he:aP=aX
             ·subst he
              by_cases g2:p.price<x.price
              ·have z:Hid (gO0 false false around best (j+1)=p):=f.trans (rB0 (by rw [H.out];simp [g2]));clear f H;go_wp2_with fail;go_roundw
               case rel=>exact ⟨j+1,E,by go_num,by rw [z.out];exact xP0 K.out p,((a1.out.setCell (dA B.out) _).setCell (dA B.out) _).setCell (dA B.out) _⟩
               case measure=>simp [intOf];omega
              ·have z:Hid (gO0 false false around best (j+1)=x):=f.trans (xQ0 (by rw [H.out];simp [g2]));clear f H;go_wp2_with fail;go_roundw
               case rel=>exact ⟨j+1,E,by go_num,by rw [z.out];exact K,a1⟩
               case measure=>simp [intOf];omega
             ·have i9:(aP == aX)=false:=aC.2 he;have z:Hid (gO0 false false around best (j+1)=x):=f.trans (xQ0 (by rw [H.out,i9];simp [hp]));clear f H he;go_wp2_with fail;go_roundw
              case rel=>exact ⟨j+1,E,by go_num,by rw [z.out];exact K,a1⟩
              case measure=>simp [intOf];omega
         ·obtain rfl:j=best.length:=o7;obtain ⟨⟨h2,h3⟩,⟨h0,h1⟩,⟨h4,h5⟩⟩:=e8;generalize gO0 by_ se_ around best best.length=x at a8 HC h2 h3 h0 h1 h4 h5 Q;have F:iL0 wr w.heap.size:=b6.below a3;have i1:Hid (iL0 wr.drew w.heap.size):=F;have h9:Hid (aL0 w wr.drew):=(aV0 h8 a3).drew;have j3:w.heap.size<xb:=by have:=lt_of_block b6.out;have:=B.out;omega
          have n1:¬w.heap.size=xb:=o7;have n2:¬xb=w.heap.size:=o7;have x0:=aP0 (j:=0) Q rfl;have x1:=aP0 (j:=1) Q rfl;have x2:=aP0 (j:=2) Q rfl;have d5:Hid ((aO0 l around).price=x.price/\(aO0 l around).qty=trB x/\(aO0 l around).sur=x.dem - x.sup):=by rw [HC.out];exact ⟨rfl,rfl,rfl⟩
          clear F Q a3 j3 HC;go_wp2_with fail
          go_region_held3 (fun w'=>w'.cell? ⟨xb,0,none⟩=some (.int .i64 x.price)/\w'.cell? ⟨xb,1,none⟩=some (.int .i64 x.dem)/\w'.cell? ⟨xb,2,none⟩=some (.int .i64 x.sup))
           (first | go_keep | (go_split_ands;refine ⟨?_,?_,?_⟩ <;> (refine cM0 c4 ?_;assumption)))
           (first | (go_at_call 212;refine (rA0 x _).mono ?_;rintro e w5 ⟨rfl,c4⟩;have F:=i1.out.below c4;have q0:=aP0 (j:=0) F rfl;have q1:=aP0 (j:=1) F rfl;have q2:=aP0 (j:=2) F rfl;have f0:=cD0 (j:=0) F;have f1:=cD0 (j:=1) F;have f2:=cD0 (j:=2) F;have h7:Hid (aL0 w w5):=aV0 h9.out c4;have i0:Hid (iL0 w5 w.heap.size):=F;clear F))
          have b2:IntKind.i64.wrap (x.dem - x.sup)=x.dem - x.sup:=IntWalk.i64_in _ o7;rw [b2];have hF:=eF0 (j:=2) (U G (x.dem - x.sup)) (eF0 (j:=1) (U G (trB x)) (eF0 (j:=0) (U G x.price) i0));have c6:Hid (aL0 w (((w5.setCell ⟨w.heap.size,0,none⟩ (U G x.price)).setCell ⟨w.heap.size,1,none⟩ (U G (trB x))).setCell ⟨w.heap.size,2,none⟩ (U G (x.dem - x.sup)))):=((h7.setCell lR7 _).setCell lR7 _).setCell lR7 _;rename_i hHeld9;clear hHeld9 q0 q1 q2 f0 f1 f2 c4 x0 x1 x2 b2;generalize ((w5.setCell ⟨w.heap.size,0,none⟩ (U G x.price)).setCell ⟨w.heap.size,1,none⟩ (U G (trB x))).setCell ⟨w.heap.size,2,none⟩ (U G (x.dem - x.sup))=V at hF c6 ⊢;have z0:=aP0 (j:=0) hF rfl;have z1:=aP0 (j:=1) hF rfl;have z2:=aP0 (j:=2) hF rfl;clear hF;go_wp2_with fail;refine bodyPost_ret (by simp [results,results154,go_sem,z0,z1,z2];try rfl) rfl ?_;exact ⟨by rw [d5.out.1,d5.out.2.1,d5.out.2.2],c6⟩
set_option linter.unusedSimpArgs false
theorem eJ1 (p:Int) (w:World):Calls prog 107 #[U G p] w fun e w'=>e=Y (.bool (iA0 p))/\w'=w:=by
 go_enter func107,ntmps107;go_wp2
 all_goals (go_ret;refine ⟨sT0 ?_,rfl⟩;(first | rfl | (rw [cR];simp only [eV0,iA0,hD0,dR,bE,beq_iff_eq,aC,ne_eq,decide_eq_true_eq,true_iff,dI,false_iff] at *;omega)))
theorem uW1 (z lo hi:Int) (w:World):Calls prog 60 #[U G z,U G lo,U G hi] w fun e w'=>e=Y (.bool (decide (lo<=z)&& decide (z<=hi)))/\w'=w:=by
 go_enter func60,ntmps60;go_wp2
 all_goals (go_ret;refine ⟨sT0 ?_,rfl⟩;(first | rfl | (rw [cR];simp only [eV0,iA0,hD0,dR,bE,beq_iff_eq,aC,ne_eq,decide_eq_true_eq,true_iff,dI,false_iff] at *;omega)))
theorem bA1 (p k:Int) (w:World):Calls prog 94 #[U G p,U G k] w fun e w'=>e=Y (.bool (eV0 p k))/\w'=w:=by
 go_enter func94,ntmps94;go_wp2_with (go_at_call 60;refine (uW1 _ _ _ _).mono ?_;rintro e w1 ⟨rfl,rfl⟩)
 all_goals (go_ret;refine ⟨sT0 ?_,rfl⟩;(first | rfl | (rw [cR];simp only [eV0,iA0,hD0,dR,bE,beq_iff_eq,aC,ne_eq,decide_eq_true_eq,true_iff,dI,false_iff] at *;omega)))
end
end Go.Proofs.YtaelphbianmckaaGreatDoor
