/- DeskPieces: a part of the proof, packed (the readable form: the templates). -/
import Derived.Test.YtaelphbianmckaaGreatDoorQA
import Derived.Test.YtaelphbianmckaaGreatDoorQD
import Derived.Laws.StructEq
namespace Go.Proofs.YtaelphbianmckaaGreatDoor
open Go.RowKit
theorem qS1 {l:List Ly} {k:Nat} (x:Ly) (h:k<l.length):((hV l).set (k*2) (.int .i64 x.slot)).set (k*2+1) (.int .i64 x.age)=hV (l.set k x):=by
 induction l generalizing k with
 | nil=>simp at h
 | cons r rs ih=>
  cases k with
  | zero=>rfl
  | succ k=>
   have:=ih (k:=k) (by simpa using h);rw [show (k+1)*2=k*2+1+1 by omega];simp only [hV,List.set_cons_succ];rw [←this]
def eE0 (i j:Nat) (l:List Ly):List Ly:=l.take i++((l.take j).drop (i+1)++l.drop (j - 1))
theorem sU0 {i:Nat} {l:List Ly} (_h:i<l.length):eE0 i (i+1) l=l:=by
 unfold eE0;rw [List.drop_of_length_le (by simp;omega),List.nil_append];simp
theorem kB0 {i j:Nat} {l:List Ly} (h1:i<j) (h2:j≤l.length):(eE0 i j l).length=l.length:=by
 unfold eE0;simp;omega
theorem cM1 {i j:Nat} {l:List Ly} (h1:i<j) (h2:j<l.length):lyAt (eE0 i j l) j=lyAt l j:=by
 unfold lyAt eE0;rw [List.getD_eq_getElem?_getD,List.getD_eq_getElem?_getD,List.getElem?_append_right (by simp;omega),List.getElem?_append_right (by simp;omega),List.getElem?_drop];simp
 congr 2
 omega
theorem vO0 {i j:Nat} {l:List Ly} (h1:i<j) (h2:j<l.length):(eE0 i j l).set (j - 1) (lyAt l j)=eE0 i (j+1) l:=by
 have hA:(l.take i).length=i:=by simp;omega
 have hB:((l.take j).drop (i+1)).length=j - 1 - i:=by simp;omega
 unfold eE0;rw [List.set_append_right _ _ (by omega),List.set_append_right _ _ (by omega),hA,hB]
 congr 1
 rw [show j - 1 - i - (j - 1 - i)=0 by omega,show j+1 - 1=j by omega];obtain ⟨j',rfl⟩:∃j',j=j'+1:=⟨j - 1,by omega⟩;rw [show j'+1 - 1=j' by omega,List.drop_eq_getElem_cons (show j'<l.length by omega),List.set_cons_zero]
 have e:(l.take (j'+1+1)).drop (i+1)=(l.take (j'+1)).drop (i+1)++[l[j'+1]]:=by
  rw [List.take_succ_eq_append_getElem h2,List.drop_append_of_le_length (by simp;omega)]
 rw [e,List.append_assoc,iD0 h2];rfl
def cT0 (i:Nat) (l:List Ly):List Ly:=l.take i++l.drop (i+1)
theorem sV0 {i:Nat} {l:List Ly} (h:i<l.length):(cT0 i l).length=l.length - 1:=by unfold cT0;simp;omega
theorem pT0 {i:Nat} {l:List Ly} (h:i<l.length):l.Perm (lyAt l i::cT0 i l):=by
 have h1:l=l.take i++lyAt l i::l.drop (i+1):=by rw [iD0 h,←List.drop_eq_getElem_cons h,List.take_append_drop]
 have h2:=List.perm_middle (a:=lyAt l i) (l₁:=l.take i) (l₂:=l.drop (i+1));rw [←h1] at h2;exact h2
theorem aC1 {i:Nat} {l:List Ly} (h:i<l.length):(eE0 i l.length l).take (l.length - 1)=cT0 i l:=by
 unfold eE0 cT0;rw [List.take_length,←List.append_assoc,List.take_left' (by simp;omega)]
def isH (x:Ly) (k:Nat) (a:Int):Bool:=decide (x.slot=k)&& decide (x.age=a)
set_option maxHeartbeats 1000000 in
theorem mF1 (pb:Nat) (k:Nat) (a:Int) (s:Int) (x:Ly) (w:World) (h:w.heap[pb]? = some (.cells #[.int .i64 k,.int .i64 a,.int .i64 s] 242 (0,0))):
  Calls Tryz.prog 172 #[.agg #[.int .i64 x.slot,.int .i64 x.age],.pointer (some ⟨pb,0,none⟩)] w fun e w'=>e=.returned (.bool (isH x k a))∧Below w.heap.size w w':=by
 have c0:=aA0 (j:=0) h rfl;have c1:=aA0 (j:=1) h rfl;have lp:=lt_of_block h;clear h
 by_cases h1:x.slot=k
 ·by_cases h2:x.age=a
  ·have HR:Hid (isH x k a=true):=by show _=_;unfold isH;rw [decide_eq_true h1,decide_eq_true h2];rfl
   have b1:((x.slot:Int) == (k:Int))=true:=by rw [h1];exact beq_self_eq_true _
   have b2:(x.age == a)=true:=by rw [h2];exact beq_self_eq_true _
   clear h1 h2;go_enter Tryz.func172,Tryz.ntmps172;go_wp2;go_ret;exact ⟨by rw [HR.out];rfl,by (repeat' first | assumption | exact Below.refl _ _ | exact lR7 | refine Below.drew ?_ | refine Below.alloc ?_ ?_ _ | (simp;done) | (simp;omega))⟩
  ·have HR:Hid (isH x k a=false):=by show _=_;unfold isH;rw [decide_eq_false h2,Bool.and_false]
   have b1:((x.slot:Int) == (k:Int))=true:=by rw [h1];exact beq_self_eq_true _
   have b2:(x.age == a)=false:=beq_eq_false_iff_ne.2 h2;clear h1 h2;go_enter Tryz.func172,Tryz.ntmps172;go_wp2;go_ret;exact ⟨by rw [HR.out];rfl,by (repeat' first | assumption | exact Below.refl _ _ | exact lR7 | refine Below.drew ?_ | refine Below.alloc ?_ ?_ _ | (simp;done) | (simp;omega))⟩
 ·have HR:Hid (isH x k a=false):=by show _=_;unfold isH;rw [decide_eq_false h1,Bool.false_and]
  have b1:((x.slot:Int) == (k:Int))=false:=beq_eq_false_iff_ne.2 (by omega);clear h1;go_enter Tryz.func172,Tryz.ntmps172;go_wp2;go_ret;exact ⟨by rw [HR.out];rfl,by (repeat' first | assumption | exact Below.refl _ _ | exact lR7 | refine Below.drew ?_ | refine Below.alloc ?_ ?_ _ | (simp;done) | (simp;omega))⟩
set_option maxRecDepth 4000 in
set_option maxHeartbeats 2000000 in
theorem qT1 (pb k i g cap:Nat) (a s:Int) (l:List Ly) (w:World) (hr:w.ownsRow 0 240 2 (.slice (some ⟨g,0,none⟩) l.length cap) l.length (hV l)) (hl:l.length≤1000) (hi:i<l.length) (hat:isH (lyAt l i) k a=true) (hno:∀j,j<i→isH (lyAt l j) k a=false)
  (hp:w.heap[pb]? = some (.cells #[.int .i64 k,.int .i64 a,.int .i64 s] 242 (0,0))):
  Calls Tryz.prog 244 #[.slice (some ⟨g,0,none⟩) l.length cap,.func (.func 172) #[] #[.pointer (some ⟨pb,0,none⟩)]] w fun e w'=>e=.returned (.int .i64 i)∧Below w.heap.size w w':=by
 have HR:Hid (w.ownsRow 0 240 2 (.slice (some ⟨g,0,none⟩) l.length cap) l.length (hV l)):=hr;have HP:Hid (w.heap[pb]? = some (.cells #[.int .i64 k,.int .i64 a,.int .i64 s] 242 (0,0))):=hp;have HAT:Hid (isH (lyAt l i) k a=true):=hat;have HNO:Hid (∀j,j<i→isH (lyAt l j) k a=false):=hno;clear hr hp hat hno;go_enter Tryz.func244,Tryz.ntmps244;go_wp2_with fail;go_loopw [8] (fun v wr=>∃j:Nat,j≤i∧v=.int .i64 j∧Below w.heap.size w wr) (fun v _=>l.length - (intOf v).toNat)
 case atStart=>exact ⟨0,Nat.zero_le _,rfl,Below.refl _ _⟩
 case round=>
  obtain ⟨j,hj,rfl,hb⟩:=hrel;have HB:Hid (Below w.heap.size w wr):=hb;have hrr:=aS0 HR.out hb lR7;have hlt:j<l.length:=by omega
  have c0:=(hrr.cellAt (j*2) (by omega)).trans (zQ0 hlt).1;have c1:=(hrr.cellAt (j*2+1) (by omega)).trans (zQ0 hlt).2;have hpr:=aD0 HP.out hb lR7;have HPR:Hid _:=hpr;clear hrr hb hpr;go_wp2_with fail;refine (mF1 pb k a s (lyAt l j) _ HPR.out).mono ?_;rintro e w1 ⟨rfl,hb1⟩;have HB1:Hid (Below w.heap.size w w1):=aC0 HB.out hb1;clear hb1 c0 c1
  by_cases hji:j=i
  ·subst hji;rw [HAT.out];go_wp2_with fail;go_ret;exact ⟨rfl,HB1.out⟩
  ·rw [HNO.out j (by omega)];go_wp2_with fail;go_roundw
   case rel=>exact ⟨j+1,by omega,by go_num,HB1.out⟩
   case measure=>simp [intOf];omega
theorem Tryz.zeroH (w:World):(zeroValue 240).run Tryz.prog w=.ok (.agg #[.int .i64 0,.int .i64 0]) w:=by kernel_rfl
theorem rC0 (W:World) (g o c:Nat) (cur:Array Value) (t:TypeId) (hg:W.heap[g]? = some (.cells cur t (0,0))) (hfit:o+2≤cur.size):
  ∃W',(∀ty,(Builtin.clear_ #[230] ty #[.slice (some ⟨g,o,none⟩) 1 c]).run Tryz.prog W=.ok (.tuple #[]) W')
   ∧W'.heap[g]? = some (.cells (cur.toList.take o++[Value.int .i64 0,Value.int .i64 0]++cur.toList.drop (o+2)).toArray t (0,0))∧Out (fun j=>j=g) W W':=by
 refine ⟨W.setRow g (cur.toList.take o++[Value.int .i64 0,Value.int .i64 0]++cur.toList.drop (o+2)).toArray,fun ty=>?_,setRow_heap W g _ _ t _ hg,⟨rfl,rfl,rfl,by simp [World.setRow],fun j _ hj=>setRow_other W g j _ hj⟩⟩;have hst:=run_storeCells_at Tryz.prog g o t [Value.int .i64 0,Value.int .i64 0] 0 cur W hg (by simpa using hfit) (by simp [Value.oneCell']);have hz:=Tryz.zeroH W;have hu:=run_underlying (P:=Tryz.prog) Tryz.underlying230 (w:=W);simp only [Nat.add_zero,List.length_cons,List.length_nil,Nat.zero_add,Nat.reduceAdd] at hst;simp [Builtin.clear_,hu,hz,Builtin.zeroCells,Value.cells];rw [show List.map (fun i=>[Value.int .i64 0,Value.int .i64 0][i % 2]?.getD default) (List.range 2)=[Value.int .i64 0,Value.int .i64 0] from rfl,hst];simp
set_option maxRecDepth 100000 in
set_option maxHeartbeats 4000000 in
theorem nU1 (pb k i g cap:Nat) (a s:Int) (l:List Ly) (w:World) (hr:w.ownsRow 0 240 2 (.slice (some ⟨g,0,none⟩) l.length cap) l.length (hV l)) (hl:l.length≤1000) (hi:i<l.length) (hat:isH (lyAt l i) k a=true) (hno:∀j,j<l.length→j≠i→isH (lyAt l j) k a=false)
  (hp:w.heap[pb]? = some (.cells #[.int .i64 k,.int .i64 a,.int .i64 s] 242 (0,0))):
  Calls Tryz.prog 171 #[.slice (some ⟨g,0,none⟩) l.length cap,.func (.func 172) #[] #[.pointer (some ⟨pb,0,none⟩)]] w
   fun e w'=>e=.returned (.slice (some ⟨g,0,none⟩) (cT0 i l).length cap)∧w'.ownsRow 0 240 2 (.slice (some ⟨g,0,none⟩) (cT0 i l).length cap) (cT0 i l).length (hV (cT0 i l))∧Out (fun j=>j=g) w w':=by
 have hpg:pb≠g:=fun e=>aF0 hr hp (by decide) (by rw [e];rfl)
 have hcap:l.length≤cap∧cap≤maxLen:=by
  obtain ⟨_,_,e,h1,h2⟩:=aY0 hr;simp only [Value.slice.injEq,true_and] at e;omega
 unfold maxLen at hcap;have HR:Hid (w.ownsRow 0 240 2 (.slice (some ⟨g,0,none⟩) l.length cap) l.length (hV l)):=hr;have HP:Hid (w.heap[pb]? = some (.cells #[.int .i64 k,.int .i64 a,.int .i64 s] 242 (0,0))):=hp;have HAT:Hid (isH (lyAt l i) k a=true):=hat;have HNO:Hid (∀j,j<l.length→j≠i→isH (lyAt l j) k a=false):=hno;have lg:g<w.heap.size:=(hr.lt g rfl).2;clear hr hp hat hno;go_enter Tryz.func171,Tryz.ntmps171;go_wp2_with fail;refine (qT1 pb k i g cap a s l _ HR.out hl hi HAT.out (fun j hj=>HNO.out j (by omega) (by omega)) HP.out).mono ?_;rintro e w0 ⟨rfl,hb0⟩;have HB0:Hid (Below w.heap.size w w0):=hb0;clear hb0;go_wp2_with fail;go_loopw [5,6] (fun v u wr=>∃n:Nat,i≤n∧n+1≤l.length∧v=.int .i64 n∧u=.int .i64 (n+1:Nat)∧wr.ownsRow 0 240 2 (.slice (some ⟨g,0,none⟩) l.length cap) l.length (hV (eE0 i (n+1) l))∧Out (fun j=>j=g) w wr) (fun _ u _=>l.length - (intOf u).toNat)
 case atStart=>exact ⟨i,lR7,by omega,rfl,by go_num,by rw [sU0 hi];exact aS0 HR.out HB0.out lR7,Out.of_below HB0.out lR7⟩
 case round=>
  obtain ⟨n,hn1,hn2,rfl,rfl,hrr,hob⟩:=hrel;have HRR:Hid (wr.ownsRow 0 240 2 (.slice (some ⟨g,0,none⟩) l.length cap) l.length (hV (eE0 i (n+1) l))):=hrr;have HOB:Hid (Out (fun j=>j=g) w wr):=hob
  by_cases hlt:n+1<l.length
  ·have hsl:(eE0 i (n+1) l).length=l.length:=kB0 (by omega) (by omega);have hv:=zQ0 (l:=eE0 i (n+1) l) (k:=n+1) (by omega);rw [cM1 (by omega) hlt] at hv;have c0:=(hrr.cellAt ((n+1)*2) (by omega)).trans hv.1;have c1:=(hrr.cellAt ((n+1)*2+1) (by omega)).trans hv.2;have q0:(0:Int)≤((n+1:Nat):Int):=by omega
   have q1:((n+1:Nat):Int)<(l.length:Int):=by omega
   clear hrr hob hv;go_wp2_with fail;have hbv:=bel1 wr (.cells #[.int .i64 (lyAt l (n+1)).slot,.int .i64 (lyAt l (n+1)).age] 240);have hvv:=heap_alloc_new wr (.cells #[.int .i64 (lyAt l (n+1)).slot,.int .i64 (lyAt l (n+1)).age] 240);refine (mF1 pb k a s (lyAt l (n+1)) _ (aD0 (aE0 HP.out HOB.out hpg) hbv lR7)).mono ?_;rintro e w1 ⟨rfl,hb1⟩;rw [HNO.out (n+1) hlt (by omega)];have hv1:=aD0 hvv hb1 lR7;have hr1:=aS0 HRR.out (aC0 hbv hb1) lR7;have HR1:Hid (w1.ownsRow 0 240 2 (.slice (some ⟨g,0,none⟩) l.length cap) l.length (hV (eE0 i (n+1) l))):=hr1;have HO1:Hid (Out (fun j=>j=g) w w1):=HOB.out.trans (Out.of_below (aC0 hbv hb1) lR7) (Went.refl _ _);have hvn:wr.heap.size≠g:=by have:=(HRR.out.lt g rfl).2;omega
   have v0:=aA0 (j:=0) hv1 rfl;have v1:=aA0 (j:=1) hv1 rfl;have hv:=zQ0 (l:=eE0 i (n+1) l) (k:=n) (by omega);have d0:=(hr1.cellAt (n*2) (by omega)).trans hv.1;have d1:=(hr1.cellAt (n*2+1) (by omega)).trans hv.2;have f0:=hr1.frozenAt (n*2);have f1:=hr1.frozenAt (n*2+1);have r0:(0:Int)≤(n:Int):=by omega
   have r1:(n:Int)<(l.length:Int):=by omega
   clear hb1 hbv hvv hv1 hr1 hv c0 c1;go_wp2_with fail;go_roundw
   case rel=>
    obtain ⟨s1,s2⟩:=HR1.out.stored (n*2) (.int .i64 (lyAt l (n+1)).slot);obtain ⟨s3,s4⟩:=s1.stored (n*2+1) (.int .i64 (lyAt l (n+1)).age);have hst:=vO0 (i:=i) (j:=n+1) (l:=l) (by omega) hlt;rw [show n+1 - 1=n by omega] at hst;rw [qS1 _ (by omega),hst] at s3;have s5:Out (fun j=>j=g) w _:=(HO1.out.trans (Out.of_grown s2 (fun j hj=>by injection hj with hj;exact hj.symm)) (Went.refl _ _)).trans (Out.of_grown s4 (fun j hj=>by injection hj with hj;exact hj.symm)) (Went.refl _ _)
    (repeat apply Exists.intro)
    refine ⟨⟨n+1,by omega,by omega,?_,?_,s3,s5⟩,rfl⟩
    ·go_num
    ·go_num
   case measure=>simp [intOf];omega
  ·have hle:l.length=n+1:=by omega
   have hsl:(eE0 i (n+1) l).length=l.length:=kB0 (by omega) (by omega);rcases hrr.2 with ⟨h',_⟩ | ⟨g',cap',cur,h',_,hg,hnc,hcm,hcs,ht⟩
   ·simp at h'
   simp only [Value.slice.injEq,Option.some.injEq,Addr.mk.injEq,and_true,true_and] at h';obtain ⟨rfl,rfl⟩:=h';obtain ⟨W1,hrun,hg1,ho1⟩:=rC0 wr g (n*2) (cap - n) cur 240 hg (by rw [hcs];omega);have hol:=sV0 hi
   have HFIN:Hid (W1.ownsRow 0 240 2 (.slice (some ⟨g,0,none⟩) n cap) n (hV (cT0 i l))∧Out (fun j=>j=g) w W1∧(cT0 i l).length=n):=by
    refine ⟨⟨by rw [dU0];omega,Or.inr ⟨g,cap,_,rfl,Nat.zero_le _,hg1,by omega,by unfold maxLen;omega,?_,?_⟩⟩,HOB.out.trans ho1 (Went.refl _ _),by omega⟩
    ·simp [hcs];omega
    ·dsimp only;rw [List.append_assoc,List.take_append_of_le_length (by simp [hcs];omega),List.take_of_length_le (by simp;omega),←aC1 hi,hle,show n+1 - 1=n by omega,←nS1 (by omega),←ht,List.take_take]
     congr 1
     omega
   have hrun':∀ty,(Builtin.clear_ #[230] ty #[.slice (some ⟨g,n*2,none⟩) (l.length - n) (cap - n)]).run Tryz.prog wr=.ok (.tuple #[]) W1:=by rw [show l.length - n=1 by omega];exact hrun
   have q0:(0:Int)≤(n:Int):=by omega
   have q1:(n:Int)≤(l.length:Int):=by omega
   have q2:¬(cap=n):=by omega
   have q3:n≤cap:=by omega
   have q4:n≤l.length:=by omega
   clear hrr hob hrun hg1 ho1 hg hcs ht hsl hol hle;go_wp2_with fail;go_ret;obtain ⟨h1,h2,h3⟩:=HFIN.out;rw [h3];exact ⟨rfl,h1,h2⟩
attribute [local go_sem ↓] Go.wp_at_zero Go.wp_at_succ
def five (w:World) (b:Nat) (o:Ord):World:=((((w.setCell ⟨b,0,none⟩ (.int .i64 o.id)).setCell ⟨b,1,none⟩ (.int .i64 o.side)).setCell ⟨b,2,none⟩ (.int .i64 o.kind)).setCell ⟨b,3,none⟩ (.int .i64 o.price)).setCell ⟨b,4,none⟩ (.int .i64 o.qty)
def rD0 (w:World) (b:Nat) (k a s:Int):World:=((w.setCell ⟨b,0,none⟩ (.int .i64 k)).setCell ⟨b,1,none⟩ (.int .i64 a)).setCell ⟨b,2,none⟩ (.int .i64 s)
theorem rE0 (w:World) (b:Nat) (o:Ord):Out (fun j=>j=b) w (five w b o):=xP0 w b _ _ _ _ _
theorem sW0 (w:World) (b:Nat) (k a s:Int):Out (fun j=>j=b) w (rD0 w b k a s):=
 ((aN0 w ⟨b,0,none⟩ _).trans (aN0 _ ⟨b,1,none⟩ _) (Went.refl _ _)).trans (aN0 _ ⟨b,2,none⟩ _) (Went.refl _ _)
theorem nV1 {w:World} {b:Nat} {u0 u1 u2 u3 u4:Value} {t:TypeId} (o:Ord) (h:w.heap[b]? = some (.cells #[u0,u1,u2,u3,u4] t (0,0))):(five w b o).heap[b]? = some (.cells #[.int .i64 o.id,.int .i64 o.side,.int .i64 o.kind,.int .i64 o.price,.int .i64 o.qty] t (0,0)):=
 aH0 (j:=4) _ (aH0 (j:=3) _ (aH0 (j:=2) _ (aH0 (j:=1) _ (aH0 (j:=0) _ h))))
theorem iL1 {w:World} {b:Nat} {u0 u1 u2:Value} {t:TypeId} (k a s:Int) (h:w.heap[b]? = some (.cells #[u0,u1,u2] t (0,0))):(rD0 w b k a s).heap[b]? = some (.cells #[.int .i64 k,.int .i64 a,.int .i64 s] t (0,0)):=
 aH0 (j:=2) _ (aH0 (j:=1) _ (aH0 (j:=0) _ h))
def plV (x:Ly) (s:Nat):Value:=.agg #[.int .i64 x.slot,.int .i64 x.age,.int .i64 s]
set_option maxRecDepth 100000 in
set_option maxHeartbeats 2000000 in
theorem cN1 (bb m:Nat) (b:BkS) (id:Int) (w:World) (h:Bk w bb m b) (hw:(Lit.int .i64 id).wf=true) (hno:∀s,s<2→∀x∈b.S s,x.o.id≠id):
  Calls Tryz.prog 170 #[.pointer (some ⟨bb,0,none⟩),.int .i64 id] w fun e W'=>e=.returned (.tuple #[Ord.none_.agg,.agg #[.int .i64 0,.int .i64 0,.int .i64 0],.iface 26 (.int .i64 7)])∧Below w.heap.size w W':=by
 have HB2:=bel2 w (.cells #[.int .i64 0,.int .i64 0,.int .i64 0,.int .i64 0,.int .i64 0] 92) (.cells #[.int .i64 0,.int .i64 0,.int .i64 0] 242);have hbk:=h.below HB2 lR7;have m1:w.cell? ⟨bb,1,none⟩=some (.map (some b.mb)):=aA0 (j:=1) h.at_.box rfl;have hrun:=hbk.at_.map.no hno hw;have lb:bb<w.heap.size:=h.lt (Or.inl rfl);clear h hbk hno hw HB2;go_enter Tryz.func170,Tryz.ntmps170;go_wp2;refine bodyPost_ret (by simp [results,Tryz.results170,go_sem];try rfl) rfl ?_;refine ⟨rfl,?_⟩
 (repeat' first | assumption | exact Below.refl _ _ | exact lR7 | refine Below.drew ?_ | refine Below.alloc ?_ ?_ _ | (simp;done) | (simp;omega))
set_option maxRecDepth 100000 in
set_option maxHeartbeats 4000000 in
theorem mR0 (bb m s:Nat) (b:BkS) (x:Ly) (w:World) (h:Bk w bb m b) (hs:s<2) (hx:x∈b.S s):
  Calls Tryz.prog 170 #[.pointer (some ⟨bb,0,none⟩),.int .i64 x.o.id] w fun e W'=>e=.returned (.tuple #[x.o.agg,plV x s,.nilIface])∧Below w.heap.size w W':=by
 have HB2:=bel2 w (.cells #[.int .i64 0,.int .i64 0,.int .i64 0,.int .i64 0,.int .i64 0] 92) (.cells #[.int .i64 0,.int .i64 0,.int .i64 0] 242);have hbk:=h.below HB2 lR7;have m1:w.cell? ⟨bb,1,none⟩=some (.map (some b.mb)):=aA0 (j:=1) h.at_.box rfl;have hrun:=hbk.at_.map.yes hs hx (h.ok.ok s hs x hx).2.1;have lb:bb<w.heap.size:=h.lt (Or.inl rfl);have HO:Hid (soAt b.rs x.slot=(some x.o,x.age)):=h.ok.there s hs x hx;have H:Hid (Bk w bb m b):=h;clear h hbk HB2;unfold Ord.agg plV;go_enter Tryz.func170,Tryz.ntmps170;go_upto_region 4 with fail;have hb2:=bel2 w (.cells #[.int .i64 0,.int .i64 0,.int .i64 0,.int .i64 0,.int .i64 0] 92) (.cells #[.int .i64 0,.int .i64 0,.int .i64 0] 242);have hr1:=eG0 w (.cells #[.int .i64 0,.int .i64 0,.int .i64 0,.int .i64 0,.int .i64 0] 92) (.cells #[.int .i64 0,.int .i64 0,.int .i64 0] 242);have hr2:=dK0 w (.cells #[.int .i64 0,.int .i64 0,.int .i64 0,.int .i64 0,.int .i64 0] 92) (.cells #[.int .i64 0,.int .i64 0,.int .i64 0] 242);have hsz:((w.alloc (.cells #[.int .i64 0,.int .i64 0,.int .i64 0,.int .i64 0,.int .i64 0] 92)).alloc (.cells #[.int .i64 0,.int .i64 0,.int .i64 0] 242)).heap.size=w.heap.size+1+1:=by simp
 generalize (w.alloc (.cells #[.int .i64 0,.int .i64 0,.int .i64 0,.int .i64 0,.int .i64 0] 92)).alloc (.cells #[.int .i64 0,.int .i64 0,.int .i64 0] 242)=wq at hb2 hr1 hr2 hsz ⊢;have hb3:=bel1 wq (.cells #[.int .i64 x.slot,.int .i64 x.age,.int .i64 s] 242);have hr3:=heap_alloc_new wq (.cells #[.int .i64 x.slot,.int .i64 x.age,.int .i64 s] 242);rw [hsz] at hr3;have hr1:=aD0 hr1 hb3 lR7;have hr2:=aD0 hr2 hb3 lR7;have hbp:=aC0 hb2 hb3;generalize wq.alloc (.cells #[.int .i64 x.slot,.int .i64 x.age,.int .i64 s] 242)=wp at hb3 hr1 hr2 hr3 hbp ⊢;have HB:Hid (Below w.heap.size w wp):=hbp;have HR1:Hid (wp.heap[w.heap.size]? = some (.cells #[.int .i64 0,.int .i64 0,.int .i64 0,.int .i64 0,.int .i64 0] 92 (0,0))):=hr1;have HR2:Hid (wp.heap[w.heap.size+1]? = some (.cells #[.int .i64 0,.int .i64 0,.int .i64 0] 242 (0,0))):=hr2;have HR3:Hid (wp.heap[w.heap.size+1+1]? = some (.cells #[.int .i64 x.slot,.int .i64 x.age,.int .i64 s] 242 (0,0))):=hr3;have HBK:Hid (Bk wp bb m b):=H.out.below hbp lR7;clear hb2 hb3 hr1 hr2 hr3 hbp hsz m1 hrun
 have HS:Hid (∀w',Below wp.heap.size wp w'→(w'.cell? ⟨bb,0,none⟩=some (.pointer (some ⟨b.ab,0,none⟩))∧w'.cell? ⟨w.heap.size+1+1,0,none⟩=some (.int .i64 x.slot)∧w'.cell? ⟨w.heap.size+1+1,1,none⟩=some (.int .i64 x.age)∧Below wp.heap.size wp w')):=fun w' hb=>
  ⟨aA0 (j:=0) (aD0 HBK.out.at_.box hb lR7) rfl,aA0 (j:=0) (aD0 HR3.out hb lR7) rfl,aA0 (j:=1) (aD0 HR3.out hb lR7) rfl,hb⟩
 have hs0:=HS.out wp (Below.refl _ _);go_cut [9,10] from 25 to 34 (fun p9 p10 wd=>p10=.nilIface∧∃xb,p9=.pointer (some ⟨xb,0,none⟩)∧wp.heap.size≤xb∧cP0 wd xb x.o∧Below wp.heap.size wp wd)
 case first=>
  go_region_held3 (fun w'=>w'.cell? ⟨bb,0,none⟩=some (.pointer (some ⟨b.ab,0,none⟩))∧w'.cell? ⟨w.heap.size+1+1,0,none⟩=some (.int .i64 x.slot)∧w'.cell? ⟨w.heap.size+1+1,1,none⟩=some (.int .i64 x.age)∧Below wp.heap.size wp w')
   ((refine HS.out _ ?_;(repeat' first | assumption | exact Below.refl _ _ | exact lR7 | refine Below.drew ?_ | refine Below.alloc ?_ ?_ _ | refine aC0 ?_ hb1 | refine Below.setCell ?_ ?_ _ | (simp;done) | (simp;omega) | (have h9:=hb1.size;simp at h9 ⊢;omega))))
   (first | (go_at_call 243;refine (nL1 b.ab 100 b.vs b.vf b.rs b.fr x.slot x.o x.age _ (HBK.out.at_.ar.below (B:=wp.heap.size) ?_ lR7) HO.out).mono ?_;(repeat' first | assumption | exact Below.refl _ _ | exact lR7 | refine Below.drew ?_ | refine Below.alloc ?_ ?_ _ | (simp;done) | (simp;omega));rintro e w1 ⟨hb1,rfl⟩;unfold Ord.agg;try (have hxb:=(hb1.block wp.heap.size (by simp)).trans (heap_alloc_new wp _);have y0:=aA0 (j:=0) hxb rfl;have y1:=aA0 (j:=1) hxb rfl;have y2:=aA0 (j:=2) hxb rfl;have y3:=aA0 (j:=3) hxb rfl;have y4:=aA0 (j:=4) hxb rfl;have z0:=aB0 (j:=0) hxb;have z1:=aB0 (j:=1) hxb;have z2:=aB0 (j:=2) hxb;have z3:=aB0 (j:=3) hxb;have z4:=aB0 (j:=4) hxb)))
  ·go_wp2_with fail;go_meet;exact ⟨rfl,w1.heap.size,rfl,hb1.size,heap_alloc_new w1 _,aC0 (w1:=w1) (aC0 (w:=wp) (w1:=wp.drew) (Below.refl _ _).drew hb1) (bel1 _ _)⟩
  ·go_wp2_with fail;go_meet;refine ⟨rfl,wp.heap.size,rfl,lR7,aH0 (j:=4) (.int .i64 x.o.qty) (aH0 (j:=3) (.int .i64 x.o.price) (aH0 (j:=2) (.int .i64 x.o.kind) (aH0 (j:=1) (.int .i64 x.o.side) (aH0 (j:=0) (.int .i64 x.o.id) hxb)))),?_⟩;have h8:Below wp.heap.size wp w1:=aC0 (bel1 wp _).drew hb1;exact ((((h8.setCell (p:=⟨wp.heap.size,0,none⟩) lR7 _).setCell (p:=⟨wp.heap.size,1,none⟩) lR7 _).setCell (p:=⟨wp.heap.size,2,none⟩) lR7 _).setCell (p:=⟨wp.heap.size,3,none⟩) lR7 _).setCell (p:=⟨wp.heap.size,4,none⟩) lR7 _
 case rest=>
  obtain ⟨rfl,xb,rfl,hxl,hxo,hbd⟩:=hcut;have g1:=aD0 HR1.out hbd lR7;have g2:=aD0 HR2.out hbd lR7;have g3:=aD0 HR3.out hbd lR7;have lp:w.heap.size+1+1<wp.heap.size:=lt_of_block HR3.out;have HBD:Hid (Below w.heap.size w wc):=aC0 HB.out hbd;have x0:=aA0 (j:=0) hxo rfl;have x1:=aA0 (j:=1) hxo rfl;have x2:=aA0 (j:=2) hxo rfl;have x3:=aA0 (j:=3) hxo rfl;have x4:=aA0 (j:=4) hxo rfl;have p0:=aA0 (j:=0) g3 rfl;have p1:=aA0 (j:=1) g3 rfl;have p2:=aA0 (j:=2) g3 rfl;have n1:xb≠w.heap.size:=by omega
  have n2:xb≠w.heap.size+1:=by omega
  have HXO:Hid (cP0 wc xb x.o):=hxo;have HG3:Hid (wc.heap[w.heap.size+1+1]? = some (.cells #[.int .i64 x.slot,.int .i64 x.age,.int .i64 s] 242 (0,0))):=g3;have HG1:Hid _:=g1;have HG2:Hid _:=g2;have a0:=aA0 (j:=0) g1 rfl;have a1:=aA0 (j:=1) g1 rfl;have a2:=aA0 (j:=2) g1 rfl;have a3:=aA0 (j:=3) g1 rfl;have a4:=aA0 (j:=4) g1 rfl;have b0:=aA0 (j:=0) g2 rfl;have b1:=aA0 (j:=1) g2 rfl;have b2:=aA0 (j:=2) g2 rfl;have f0:=aB0 (j:=0) g1;have f1:=aB0 (j:=1) g1;have f2:=aB0 (j:=2) g1;have f3:=aB0 (j:=3) g1;have f4:=aB0 (j:=4) g1;have f5:=aB0 (j:=0) g2;have f6:=aB0 (j:=1) g2;have f7:=aB0 (j:=2) g2;clear hs0 HS hbd hxo g1 g2 g3 hxl lp;go_wp2_with fail
  have HS5:Hid (∀w',Out (fun j=>j=w.heap.size∨j=w.heap.size+1) wc w'→(w'.cell? ⟨xb,0,none⟩=some (.int .i64 x.o.id)∧w'.cell? ⟨xb,1,none⟩=some (.int .i64 x.o.side)∧w'.cell? ⟨xb,2,none⟩=some (.int .i64 x.o.kind)∧w'.cell? ⟨xb,3,none⟩=some (.int .i64 x.o.price)∧w'.cell? ⟨xb,4,none⟩=some (.int .i64 x.o.qty)∧w'.cell? ⟨w.heap.size+1+1,0,none⟩=some (.int .i64 x.slot)∧w'.cell? ⟨w.heap.size+1+1,1,none⟩=some (.int .i64 x.age)∧w'.cell? ⟨w.heap.size+1+1,2,none⟩=some (.int .i64 s)∧Out (fun j=>j=w.heap.size∨j=w.heap.size+1) wc w')):=fun w' ho=>by
   have k1:=aE0 HXO.out ho (fun e=>by rcases e with e | e <;> omega);have k2:=aE0 HG3.out ho (fun e=>by rcases e with e | e <;> omega);exact ⟨aA0 (j:=0) k1 rfl,aA0 (j:=1) k1 rfl,aA0 (j:=2) k1 rfl,aA0 (j:=3) k1 rfl,aA0 (j:=4) k1 rfl,aA0 (j:=0) k2 rfl,aA0 (j:=1) k2 rfl,aA0 (j:=2) k2 rfl,ho⟩
  have hs1:=HS5.out wc (Out.refl _ _);have hOF:Out (fun j=>j=w.heap.size∨j=w.heap.size+1) wc (five wc w.heap.size x.o).drew:=aT0 ((rE0 wc _ _).mono (fun j hj=>Or.inl hj));have hOZ:Out (fun j=>j=w.heap.size∨j=w.heap.size+1) wc (rD0 (five wc w.heap.size x.o) (w.heap.size+1) x.slot x.age s).drew:=aT0 (((rE0 wc _ _).mono (fun j hj=>Or.inl hj)).trans ((sW0 _ _ _ _ _).mono (fun j hj=>Or.inr hj)) (Went.refl _ _));have j1:(rD0 (five wc w.heap.size x.o) (w.heap.size+1) x.slot x.age s).heap[w.heap.size]? = some (.cells #[.int .i64 x.o.id,.int .i64 x.o.side,.int .i64 x.o.kind,.int .i64 x.o.price,.int .i64 x.o.qty] 92 (0,0)):=aE0 (nV1 (w:=wc) x.o HG1.out) (sW0 _ _ _ _ _) (fun e=>Nat.ne_of_lt (Nat.lt_succ_self _) e);have j2:(rD0 (five wc w.heap.size x.o) (w.heap.size+1) x.slot x.age s).heap[w.heap.size+1]? = some (.cells #[.int .i64 x.slot,.int .i64 x.age,.int .i64 s] 242 (0,0)):=iL1 (w:=five wc w.heap.size x.o) _ _ _ (aE0 (w:=wc) HG2.out (rE0 _ _ _) (fun e=>Nat.ne_of_gt (Nat.lt_succ_self _) e));have k1:(rD0 (five wc w.heap.size x.o) (w.heap.size+1) x.slot x.age s).drew.heap[w.heap.size]? = some (.cells #[.int .i64 x.o.id,.int .i64 x.o.side,.int .i64 x.o.kind,.int .i64 x.o.price,.int .i64 x.o.qty] 92 (0,0)):=by rw [jV0];exact j1
  have k2:(rD0 (five wc w.heap.size x.o) (w.heap.size+1) x.slot x.age s).drew.heap[w.heap.size+1]? = some (.cells #[.int .i64 x.slot,.int .i64 x.age,.int .i64 s] 242 (0,0)):=by rw [jV0];exact j2
  clear j1 j2;have k3:Below w.heap.size w (rD0 (five wc w.heap.size x.o) (w.heap.size+1) x.slot x.age s).drew:=HBD.out.trans (hOZ.below (fun j hj=>by rcases hj with hj | hj <;> omega) HBD.out.size);unfold rD0 five at hOZ k1 k2 k3;unfold five at hOF;have HOF:Hid _:=hOF;have HOZ:Hid _:=hOZ;have HK1:Hid _:=k1;have HK2:Hid _:=k2;have HK3:Hid _:=k3;clear hOF hOZ k1 k2 k3;clear x0 x1 x2 x3 x4 p0 p1 p2;refine eP0 (fun w'=>w'.cell? ⟨xb,0,none⟩=some (.int .i64 x.o.id)∧w'.cell? ⟨xb,1,none⟩=some (.int .i64 x.o.side)∧w'.cell? ⟨xb,2,none⟩=some (.int .i64 x.o.kind)∧w'.cell? ⟨xb,3,none⟩=some (.int .i64 x.o.price)∧w'.cell? ⟨xb,4,none⟩=some (.int .i64 x.o.qty)∧w'.cell? ⟨w.heap.size+1+1,0,none⟩=some (.int .i64 x.slot)∧w'.cell? ⟨w.heap.size+1+1,1,none⟩=some (.int .i64 x.age)∧w'.cell? ⟨w.heap.size+1+1,2,none⟩=some (.int .i64 s)∧Out (fun j=>j=w.heap.size∨j=w.heap.size+1) wc w') (fun _=>false) (by kernel_rfl) (HS5.out _ (aT0 (Out.refl _ _))) (fun hHeld=>?_);refine tkL7 (i:=0) (v:=?_) rfl (by kernel_rfl) (fun _ _ _ h=>h) (by rfl) ?_ (by assumption) ?_;rotate_left
  ·intro w hSw;try dsimp only at hSw
   go_simp;try rfl
  refine tkL7 (i:=1) (v:=?_) rfl (by kernel_rfl) (fun _ _ _ h=>h) (by rfl) ?_ (by assumption) ?_;rotate_left
  ·intro w hSw;try dsimp only at hSw
   go_simp;try rfl
  refine tkL7 (i:=2) (v:=?_) rfl (by kernel_rfl) (fun _ _ _ h=>h) (by rfl) ?_ (by assumption) ?_;rotate_left
  ·intro w hSw;try dsimp only at hSw
   go_simp;try rfl
  refine aU0 (rs:=[3]) (by kernel_rfl) (by simp) ?_;refine aI0.cons rfl (fun K hK=>?_) aI0.nil;go_simp;refine hK.out _ _ (fun _=>HS5.out _ HOF.out) (fun hHeld=>?_);replace hHeld:=hHeld rfl;clear hK K;refine aU0 (rs:=[4]) (by kernel_rfl) (by simp) ?_;refine aI0.cons rfl (fun K hK=>?_) aI0.nil;go_simp;have hO5:=HOZ.out;have k1:=HK1.out;have k2:=HK2.out;have k3:=HK3.out;clear HOZ HK1 HK2 HK3;generalize ((((((((wc.setCell ⟨w.heap.size,0,none⟩ (.int .i64 x.o.id)).setCell ⟨w.heap.size,1,none⟩ (.int .i64 x.o.side)).setCell ⟨w.heap.size,2,none⟩ (.int .i64 x.o.kind)).setCell ⟨w.heap.size,3,none⟩ (.int .i64 x.o.price)).setCell ⟨w.heap.size,4,none⟩ (.int .i64 x.o.qty)).setCell ⟨w.heap.size+1,0,none⟩ (.int .i64 x.slot)).setCell ⟨w.heap.size+1,1,none⟩ (.int .i64 x.age)).setCell ⟨w.heap.size+1,2,none⟩ (.int .i64 s)).drew=wz at hO5 k1 k2 k3 ⊢;refine hK.out _ _ (fun _=>HS5.out _ hO5) (fun hHeld=>?_);replace hHeld:=hHeld rfl;have e0:=aA0 (j:=0) k1 rfl;have e1:=aA0 (j:=1) k1 rfl;have e2:=aA0 (j:=2) k1 rfl;have e3:=aA0 (j:=3) k1 rfl;have e4:=aA0 (j:=4) k1 rfl;have e5:=aA0 (j:=0) k2 rfl;have e6:=aA0 (j:=1) k2 rfl;have e7:=aA0 (j:=2) k2 rfl;clear hK K a0 a1 a2 a3 a4 b0 b1 b2 f0 f1 f2 f3 f4 f5 f6 f7 hs1 hO5 k1 k2;refine aU0 (rs:=[5]) (by kernel_rfl) (by simp) ?_;refine aI0.cons rfl (fun K hK=>?_) aI0.nil;go_simp;refine hK.out _ _ (fun _=>hHeld) (fun _=>?_);refine fT0 (by kernel_rfl) ?_ _;go_wp2_with fail;refine bodyPost_ret (by simp [results,Tryz.results170,go_sem,e0,e1,e2,e3,e4,e5,e6,e7];try rfl) rfl ?_;exact ⟨rfl,k3⟩
end Go.Proofs.YtaelphbianmckaaGreatDoor
namespace Go.Proofs.YtaelphbianmckaaGreatDoor
open Go.RowKit
attribute [local go_sem ↓] Go.wp_at_zero Go.wp_at_succ
set_option maxRecDepth 100000 in
set_option maxHeartbeats 2000000 in
theorem sX0 (bb m:Nat) (b:BkS) (id:Int) (w:World) (h:Bk w bb m b) (hw:(Lit.int .i64 id).wf=true) (hno:∀s,s<2→∀x∈b.S s,x.o.id≠id):
  Calls Tryz.prog 120 #[.pointer (some ⟨bb,0,none⟩),.int .i64 id] w fun e W'=>e=.returned (.tuple #[Ord.none_.agg,.iface 26 (.int .i64 7)])∧Below w.heap.size w W':=by
 have H:Hid (Bk w bb m b):=h;have HN:Hid (∀s,s<2→∀x∈b.S s,x.o.id≠id):=hno;clear h hno;go_enter Tryz.func120,Tryz.ntmps120;go_wp2_with fail;refine (cN1 bb m b id _ (H.out.below (bel1 _ _) lR7) hw HN.out).mono ?_;rintro e w1 ⟨rfl,hb1⟩;unfold Ord.agg Ord.none_;have hr:=aD0 (heap_alloc_new w _) hb1 lR7;have HB1:Hid (Below w.heap.size w w1):=aC0 (bel1 _ _) hb1;clear hb1;go_upto_region 3 with fail;have hb2:=bel2 w1 (.cells #[.int .i64 0,.int .i64 0,.int .i64 0,.int .i64 0,.int .i64 0] 92) (.cells #[.int .i64 0,.int .i64 0,.int .i64 0] 242);have hr:=aD0 hr hb2 lR7;generalize (w1.alloc (.cells #[.int .i64 0,.int .i64 0,.int .i64 0,.int .i64 0,.int .i64 0] 92)).alloc (.cells #[.int .i64 0,.int .i64 0,.int .i64 0] 242)=w2 at hb2 hr ⊢;have HB2:Hid (Below w.heap.size w w2):=aC0 HB1.out hb2;have a0:=aA0 (j:=0) hr rfl;have a1:=aA0 (j:=1) hr rfl;have a2:=aA0 (j:=2) hr rfl;have a3:=aA0 (j:=3) hr rfl;have a4:=aA0 (j:=4) hr rfl;have f0:=aB0 (j:=0) hr;have f1:=aB0 (j:=1) hr;have f2:=aB0 (j:=2) hr;have f3:=aB0 (j:=3) hr;have f4:=aB0 (j:=4) hr;clear hb2 hr;go_wp2;refine bodyPost_ret (by simp [results,Tryz.results120,go_sem,a0,a1,a2,a3,a4];try rfl) rfl ?_;refine ⟨rfl,?_⟩;have s0:Below w.heap.size w2 w2:=Below.refl _ _;exact HB2.out.trans (((((s0.setCell (p:=⟨w.heap.size,0,none⟩) (by simp) _).setCell (p:=⟨w.heap.size,1,none⟩) (by simp) _).setCell (p:=⟨w.heap.size,2,none⟩) (by simp) _).setCell (p:=⟨w.heap.size,3,none⟩) (by simp) _).setCell (p:=⟨w.heap.size,4,none⟩) (by simp) _)
theorem iM1 {w:World} {v:Value} {n:Nat} {l:List Value} (h:w.ownsRow 0 240 2 v n l) (hn:0<n):∃g cap,v=.slice (some ⟨g,0,none⟩) n cap:=by
 rcases h.2 with ⟨rfl,rfl⟩ | ⟨g,cap,cur,rfl,_⟩
 ·exact absurd hn (Nat.lt_irrefl 0)
 ·exact ⟨g,cap,rfl⟩
theorem iN1 {m s i:Nat} {rs:List Sot} {fr:List Nat} {S:Nat→List Ly} {x:Ly} (h:Pb m rs fr S) (hs:s<2) (hi:i<(S s).length) (hx:lyAt (S s) i=x):isH (lyAt (S s) i) x.slot x.age=true∧∀j,j<(S s).length→j≠i→isH (lyAt (S s) j) x.slot x.age=false:=by
 have hn:((S s).map Ly.slot).Nodup:=by
  have:=h.nd;rw [List.map_append] at this
  match s,hs with
  | 0,_=>exact (List.nodup_append.1 this).1
  | 1,_=>exact (List.nodup_append.1 this).2.1
 refine ⟨by rw [hx];simp [isH],fun j hj hji=>?_⟩
 have hne:(lyAt (S s) j).slot≠x.slot:=fun e=>hji (by
  rw [←hx,iD0 hi,iD0 hj] at e;have h1:j<((S s).map Ly.slot).length:=by simpa using hj
  have h2:i<((S s).map Ly.slot).length:=by simpa using hi
  exact (List.getElem_inj (h₀:=h1) (h₁:=h2) hn).1 (by simpa using e))
 simp [isH,hne]
theorem vP0 {x:Ly} {l:List Ly} (h:x∈l):∃i,i<l.length∧lyAt l i=x:=by
 obtain ⟨i,hi,e⟩:=List.mem_iff_getElem.1 h;exact ⟨i,hi,by rw [iD0 hi];exact e⟩
theorem iO1 {m s i:Nat} {rs:List Sot} {fr:List Nat} {S:Nat→List Ly} {x:Ly} (h:Pb m rs fr S) (hs:s<2) (hi:i<(S s).length) (hx:lyAt (S s) i=x):∀t,t<2→∀y,y∈upS S s (cT0 i (S s)) t↔(y∈S t∧y.o.id≠x.o.id):=by
 have hp:=pT0 hi;rw [hx] at hp;have hall:(S 0++S 1).Perm (x::(upS S s (cT0 i (S s)) 0++upS S s (cT0 i (S s)) 1)):=(nF0 S hs).trans ((hp.append_right _).trans ((bW1 S _ hs).symm.cons _));have hid:=(hall.map fun x=>x.o.id).nodup_iff.1 h.ids;simp only [List.map_cons,List.nodup_cons,List.mem_map,not_exists,not_and] at hid;intro t ht y
 have hin:y∈upS S s (cT0 i (S s)) t→y.o.id≠x.o.id:=fun hy e=>hid.1 y (by
  match t,ht with
  | 0,_=>exact List.mem_append_left _ hy
  | 1,_=>exact List.mem_append_right _ hy) e
 by_cases e:t=s
 ·subst e;rw [gE0] at hin ⊢;refine ⟨fun hy=>⟨hp.mem_iff.2 (List.mem_cons_of_mem _ hy),hin hy⟩,fun ⟨hy,hne⟩=>?_⟩;rcases List.mem_cons.1 (hp.mem_iff.1 hy) with e | e
  ·exact absurd (by rw [e]) hne
  ·exact e
 ·rw [eS0 _ e] at hin ⊢;exact ⟨fun hy=>⟨hy,hin hy⟩,fun hy=>hy.1⟩
def mG1 (b:BkS) (s i:Nat) (x:Ly) (vf' v':Value):BkS:=
 ⟨b.ab,b.mb,b.n,b.vs,vf',rowV b.v0 v' s 0,rowV b.v1 v' s 1,b.rs.set x.slot (none,x.age+1),b.fr++[x.slot],upS b.S s (cT0 i (b.S s))⟩
theorem nW1 {w w3 w7 w8 w9:World} {bb m s i g cap:Nat} {b:BkS} {x:Ly} {vf':Value} (h:Bk w bb m b) (hm:m+1≤900000) (hs:s<2) (hx:x∈b.S s) (hi:i<(b.S s).length) (hix:lyAt (b.S s) i=x)
  (hO:Out (b.foot bb) w w3) (hz:w.heap.size<w3.heap.size) (hvo:(vAt b.v0 b.v1 s).ownBlock=some g) (hT:Out (fun j=>j=bb∨(vAt b.v0 b.v1 s).ownBlock=some j) w3 w7)
  (hG:BookG w7 bb b.ab b.mb b.n b.vs b.vf (rowV b.v0 (.slice (some ⟨g,0,none⟩) (cT0 i (b.S s)).length cap) s 0) (rowV b.v1 (.slice (some ⟨g,0,none⟩) (cT0 i (b.S s)).length cap) s 1) b.rs b.fr (upS b.S s (cT0 i (b.S s))) (upS b.S s (cT0 i (b.S s))))
  (ha:ArOr w8 b.ab 100 b.vs vf' (b.rs.set x.slot (none,x.age+1)) (b.fr++[x.slot])) (ho8:Out (aoB b.ab b.vs b.vf) w7 w8) (hw8:Went w7 (aoB b.ab b.vs b.vf) (aoB b.ab b.vs vf')) (h9:Out (fun j=>j=w.heap.size) w8 w9):
  Goes w w9 bb (m+1) b (mG1 b s i x vf' (.slice (some ⟨g,0,none⟩) (cT0 i (b.S s)).length cap)):=by
 have hp:=pT0 hi;rw [hix] at hp;have hz7:w.heap.size<w7.heap.size:=Nat.lt_of_lt_of_le hz hT.size
 have hw:=sQ0 (w:=w) (v0:=b.v0) (v1:=b.v1) (v':=.slice (some ⟨g,0,none⟩) (cT0 i (b.S s)).length cap) hs (fun j hj=>by
   have e:g=j:=by simpa [Value.ownBlock] using hj
   subst e;exact Or.inl hvo)
 have hold:∀j,(rowV b.v0 (.slice (some ⟨g,0,none⟩) (cT0 i (b.S s)).length cap) s 0).ownBlock=some j∨(rowV b.v1 (.slice (some ⟨g,0,none⟩) (cT0 i (b.S s)).length cap) s 1).ownBlock=some j→j<w3.heap.size∧(b.v0.ownBlock=some j∨b.v1.ownBlock=some j):=fun j hj=>by
  have h0:b.v0.ownBlock=some j∨b.v1.ownBlock=some j:=by
   match s,hs with
   | 0,_=>
    rcases hj with hj | hj
    ·have e:g=j:=by simpa [rowV,Value.ownBlock] using hj
     exact Or.inl (e ▸ hvo)
    ·exact Or.inr hj
   | 1,_=>
    rcases hj with hj | hj
    ·exact Or.inl hj
    ·have e:g=j:=by simpa [rowV,Value.ownBlock] using hj
     exact Or.inr (e ▸ hvo)
  exact ⟨Nat.lt_trans (h.lt (Or.inr (Or.inr (Or.inr h0)))) hz,h0⟩
 have hW:Went w (b.foot bb) ((mG1 b s i x vf' (.slice (some ⟨g,0,none⟩) (cT0 i (b.S s)).length cap)).foot bb):=by
  rintro j (hj | hj | hj | hj)
  ·exact Or.inl (Or.inl hj)
  ·exact (hw8 j hj).imp (fun h=>Or.inr (Or.inl h)) (fun h=>Nat.le_of_lt (Nat.lt_of_lt_of_le hz7 h))
  ·exact Or.inl (Or.inr (Or.inr (Or.inl hj)))
  ·exact Or.inl (Or.inr (Or.inr (Or.inr (hold j hj).2)))
 refine ⟨⟨((hG.newAr ho8 ha).out h9 (fun k hk e=>?_)).done,h.ok.gone hs hx hp,Nat.le_succ_of_le h.small,hm⟩,?_,hW⟩
 ·have e':k=w.heap.size:=e;have nl:∀j,b.foot bb j→j≠w.heap.size:=fun j hj e=>by have:=h.lt hj;omega
  rcases hk with hk | hk | hk | hk
  ·exact nl k (Or.inl hk) e'
  ·rcases hw8 k hk with h1 | h1
   ·exact nl k (Or.inr (Or.inl h1)) e'
   ·omega
  ·exact nl k (Or.inr (Or.inr (Or.inl hk))) e'
  ·exact nl k (Or.inr (Or.inr (Or.inr (hold k hk).2))) e'
 ·have o1:=hO.trans (hT.mono (S':=b.foot bb) (fun j hj=>by
   rcases hj with hj | hj
   ·exact Or.inl hj
   ·exact Or.inr (Or.inr (Or.inr (vL0 hs hj))))) (Went.refl _ _)
  have o2:=o1.trans (ho8.mono (S':=b.foot bb) (fun j hj=>Or.inr (Or.inl hj))) (Went.refl _ _);exact o2.trans h9 (fun j hj=>Or.inr (by rw [show j=w.heap.size from hj];exact lR7))
set_option maxRecDepth 100000 in
set_option maxHeartbeats 4000000 in
theorem lE0 (bb m s:Nat) (b:BkS) (x:Ly) (w:World) (h:Bk w bb m b) (hm:m+1≤900000) (hs:s<2) (hx:x∈b.S s):
  Calls Tryz.prog 120 #[.pointer (some ⟨bb,0,none⟩),.int .i64 x.o.id] w fun e W'=>e=.returned (.tuple #[x.o.agg,.nilIface])∧∃b':BkS,(∃i,i<(b.S s).length∧lyAt (b.S s) i=x∧b'.S=upS b.S s (cT0 i (b.S s)))∧Goes w W' bb (m+1) b b':=by
 have H:Hid (Bk w bb m b):=h;clear h;unfold Ord.agg;go_enter Tryz.func120,Tryz.ntmps120;go_wp2_with fail;refine (mR0 bb m s b x _ (H.out.below (bel1 _ _) lR7) hs hx).mono ?_;rintro e w1 ⟨rfl,hb1⟩;unfold Ord.agg plV;have hr:=aD0 (heap_alloc_new w _) hb1 lR7;have HB1:Hid (Below w.heap.size w w1):=aC0 (bel1 _ _) hb1;clear hb1;go_upto_region 4 with fail;have hb2:=bel2 w1 (.cells #[.int .i64 x.o.id,.int .i64 x.o.side,.int .i64 x.o.kind,.int .i64 x.o.price,.int .i64 x.o.qty] 92) (.cells #[.int .i64 x.slot,.int .i64 x.age,.int .i64 s] 242);have hr:=aD0 hr hb2 lR7;have hp:=dK0 w1 (.cells #[.int .i64 x.o.id,.int .i64 x.o.side,.int .i64 x.o.kind,.int .i64 x.o.price,.int .i64 x.o.qty] 92) (.cells #[.int .i64 x.slot,.int .i64 x.age,.int .i64 s] 242);have hpl:w.heap.size<w1.heap.size+1:=Nat.lt_succ_of_le HB1.out.size;generalize (w1.alloc (.cells #[.int .i64 x.o.id,.int .i64 x.o.side,.int .i64 x.o.kind,.int .i64 x.o.price,.int .i64 x.o.qty] 92)).alloc (.cells #[.int .i64 x.slot,.int .i64 x.age,.int .i64 s] 242)=w2 at hb2 hr hp ⊢;generalize w1.heap.size+1=pb at hp hpl ⊢;have HB2:Hid (Below w.heap.size w w2):=aC0 HB1.out hb2;clear hb2 HB1;have HBK:Hid (Bk w2 bb m b):=H.out.below HB2.out lR7;obtain ⟨i,hil,hix⟩:=vP0 hx;have m1:w2.cell? ⟨bb,1,none⟩=some (.map (some b.mb)):=aA0 (j:=1) HBK.out.at_.box rfl;obtain ⟨w3,hrun,hm3,ho3⟩:=HBK.out.at_.map.del (H.out.ok.ok s hs x hx).2.1 (iO1 H.out.ok hs hil hix) 0;have hG3:=HBK.out.at_.mid.newMap ho3 hm3;have hr:=aE0 hr ho3 (HBK.out.at_.map.ne hr);have hp:=aE0 hp ho3 (HBK.out.at_.map.ne hp);have HO3:Hid (Out (b.foot bb) w w3):=(Out.of_below HB2.out lR7).trans (ho3.mono (S':=b.foot bb) (fun j hj=>Or.inr (Or.inr (Or.inl hj)))) (Went.refl _ _);go_wp2_with fail;clear hrun m1 hm3 ho3;obtain ⟨hrow,_,_⟩:=hG3.rowIs hs;obtain ⟨g,cap,hv⟩:=iM1 hrow (by omega);have HG3:Hid (BookG w3 bb b.ab b.mb b.n b.vs b.vf b.v0 b.v1 b.rs b.fr (upS b.S s (cT0 i (b.S s))) b.S):=hG3;have HR3:Hid (w3.heap[w.heap.size]? = some (.cells #[.int .i64 0,.int .i64 0,.int .i64 0,.int .i64 0,.int .i64 0] 92 (0,0))):=hr;have HP3:Hid (w3.heap[pb]? = some (.cells #[.int .i64 x.slot,.int .i64 x.age,.int .i64 s] 242 (0,0))):=hp;have HROW:Hid (w3.ownsRow 0 240 2 (.slice (some ⟨g,0,none⟩) (b.S s).length cap) (b.S s).length (hV (b.S s))):=by rw [hv] at hrow;exact hrow
 have HV:Hid (vAt b.v0 b.v1 s=.slice (some ⟨g,0,none⟩) (b.S s).length cap):=hv
 have hgw:g<w.heap.size:=by
  have h1:(vAt b.v0 b.v1 s).ownBlock=some g:=by rw [hv];rfl
  exact ((H.out.at_.mid.rowIs hs).1.lt g h1).2
 have ng:∀{j:Nat} {vs:Array Value} {t:TypeId},w3.heap[j]? = some (.cells vs t (0,0))→t≠240→¬(j=g):=fun {j vs t} hj ht e=>aF0 HROW.out hj ht (by rw [e];rfl)
 have HS5:Hid (∀w',Out (fun j=>j=g) w3 w'→(w'.cell? ⟨pb,1,none⟩=some (.int .i64 x.age)∧w'.cell? ⟨pb,2,none⟩=some (.int .i64 s)∧w'.cell? ⟨bb,2+s,none⟩=some (.slice (some ⟨g,0,none⟩) (b.S s).length cap)∧Out (fun j=>j=g) w3 w')):=fun w' ho=>by
  have g1:=aE0 HP3.out ho (ng HP3.out (by decide));have g2:=aE0 HG3.out.box ho (ng HG3.out.box (by decide));exact ⟨aA0 (j:=1) g1 rfl,aA0 (j:=2) g1 rfl,by rw [←HV.out];exact (jY0 g2 hs).1,ho⟩
 clear hG3 hr hp hrow hv
 have hln:(b.S s).length≤1000:=by
  have h1:=(nG0 b.S [] hs).2;have h2:=H.out.ok.most;omega
 have HON:Hid (isH (lyAt (b.S s) i) x.slot x.age=true∧∀j,j<(b.S s).length→j≠i→isH (lyAt (b.S s) j) x.slot x.age=false):=iN1 H.out.ok hs hil hix;have q1:(0:Int)≤(s:Int):=by omega
 have q2:(s:Int)<2:=by omega
 refine eP0 (fun w'=>w'.cell? ⟨pb,1,none⟩=some (.int .i64 x.age)∧w'.cell? ⟨pb,2,none⟩=some (.int .i64 s)∧w'.cell? ⟨bb,2+s,none⟩=some (.slice (some ⟨g,0,none⟩) (b.S s).length cap)∧Out (fun j=>j=g) w3 w') (fun i=>i == 15) (by kernel_rfl) (HS5.out _ (aT0 (Out.refl _ _))) (fun hHeld=>?_);refine tkL7 (i:=0) (v:=?_) rfl (by kernel_rfl) (fun _ _ _ h=>h) (by rfl) ?_ (by assumption) ?_;rotate_left
 ·intro w hSw;try dsimp only at hSw
  go_simp;try rfl
 refine tkL7 (i:=1) (v:=?_) rfl (by kernel_rfl) (fun _ _ _ h=>h) (by rfl) ?_ (by assumption) ?_;rotate_left
 ·intro w hSw;try dsimp only at hSw
  go_simp;try rfl
 refine tkL7 (i:=2) (v:=?_) rfl (by kernel_rfl) (fun _ _ _ h=>h) (by rfl) ?_ (by assumption) ?_;rotate_left
 ·intro w hSw;try dsimp only at hSw
  go_simp;try rfl
 refine tkL7 (i:=3) (v:=?_) rfl (by kernel_rfl) (fun _ _ _ h=>h) (by rfl) ?_ (by assumption) ?_;rotate_left
 ·intro w hSw;try dsimp only at hSw
  go_simp;try rfl
 refine tkL7 (i:=4) (v:=?_) rfl (by kernel_rfl) (fun _ _ _ h=>h) (by rfl) ?_ (by assumption) ?_;rotate_left
 ·intro w hSw;try dsimp only at hSw
  go_simp;try rfl
 refine tkL7 (i:=5) (v:=?_) rfl (by kernel_rfl) (fun _ _ _ h=>h) (by rfl) ?_ (by assumption) ?_;rotate_left
 ·intro w hSw;try dsimp only at hSw
  go_simp;try rfl
 refine tkL7 (i:=6) (v:=?_) rfl (by kernel_rfl) (fun _ _ _ h=>h) (by rfl) ?_ (by assumption) ?_;rotate_left
 ·intro w hSw;try dsimp only at hSw
  go_simp;try rfl
 refine tkL7 (i:=7) (v:=?_) rfl (by kernel_rfl) (fun _ _ _ h=>h) (by rfl) ?_ (by assumption) ?_;rotate_left
 ·intro w hSw;try dsimp only at hSw
  go_simp;try rfl
 refine tkL7 (i:=8) (v:=?_) rfl (by kernel_rfl) (fun _ _ _ h=>h) (by rfl) ?_ (by assumption) ?_;rotate_left
 ·intro w hSw;try dsimp only at hSw
  go_simp;try rfl
 refine tkL7 (i:=9) (v:=?_) rfl (by kernel_rfl) (fun _ _ _ h=>h) (by rfl) ?_ (by assumption) ?_;rotate_left
 ·intro w hSw;try dsimp only at hSw
  go_simp;try rfl
 refine tkL7 (i:=10) (v:=?_) rfl (by kernel_rfl) (fun _ _ _ h=>h) (by rfl) ?_ (by assumption) ?_;rotate_left
 ·intro w hSw;try dsimp only at hSw
  go_simp;try rfl
 refine tkL7 (i:=12) (v:=?_) rfl (by kernel_rfl) (fun _ _ _ h=>h) (by rfl) ?_ (by assumption) ?_;rotate_left
 ·intro w hSw;try dsimp only at hSw
  go_simp;try rfl
 refine tkL7 (i:=13) (v:=?_) rfl (by kernel_rfl) (fun _ _ _ h=>h) (by rfl) ?_ (by assumption) ?_;rotate_left
 ·intro w hSw;try dsimp only at hSw
  go_simp;try rfl
 refine aU0 (rs:=[11]) (by kernel_rfl) (by simp) ?_;refine aI0.cons rfl (fun K hK=>?_) aI0.nil;go_simp;refine (nU1 pb x.slot i g cap x.age s (b.S s) _ (aS0 HROW.out (Below.refl _ _).drew lR7) hln hil HON.out.1 HON.out.2 HP3.out).mono ?_;rintro e w6 ⟨rfl,hr6,ho6⟩;dsimp only;have ho6:Out (fun j=>j=g) w3 w6:=bA0 (aT0 (Out.refl _ _)) ho6;have b6:=jY0 (aE0 HG3.out.box ho6 (ng HG3.out.box (by decide))) hs;have e6:=b6.1;have f6:=b6.2;refine hK.out _ _ (fun _=>HS5.out _ ho6) (fun hHeld=>?_);replace hHeld:=hHeld rfl;clear hK K b6;refine aU0 (rs:=[14]) (by kernel_rfl) (by simp) ?_;refine aI0.cons rfl (fun K hK=>?_) aI0.nil;go_simp;refine hK.out _ _ (fun _=>HS5.out _ ho6) (fun hHeld=>?_);replace hHeld:=hHeld rfl;clear hK K;refine aU0 (rs:=[15]) (by kernel_rfl) (by simp) ?_;refine aI0.cons rfl (fun K hK=>?_) aI0.nil;go_simp;refine hK.out _ _ (fun h=>by cases h) (fun _=>?_);refine fT0 (by kernel_rfl) ?_ _;go_wp2_with fail;have hvo:(vAt b.v0 b.v1 s).ownBlock=some g:=by rw [HV.out];rfl
 obtain ⟨hG,hT⟩:=HG3.out.newRow hs hr6 (ho6.mono (fun j hj=>by rw [show j=g from hj];exact hvo)) (Or.inl hvo);generalize w6.setCell ⟨bb,2+s,none⟩ (.slice (some ⟨g,0,none⟩) (cT0 i (b.S s)).length cap)=w7 at hG hT ⊢;have hz:w.heap.size<w3.heap.size:=lt_of_block HR3.out
 have n7:∀{j:Nat} {vs:Array Value} {t:TypeId},w3.heap[j]? = some (.cells vs t (0,0))→t≠233→t≠240→¬(j=bb∨(vAt b.v0 b.v1 s).ownBlock=some j):=fun {j vs t} hj ht ht2 e=>by
  rcases e with e | e
  ·exact dV0 hj HG3.out.box ht e
  ·rw [hvo] at e;exact ng hj ht2 (by injection e with e;exact e.symm)
 have hr7:=aE0 HR3.out hT (n7 HR3.out (by decide) (by decide));have hp7:=aE0 HP3.out hT (n7 HP3.out (by decide) (by decide));have HG7:Hid (BookG w7 bb b.ab b.mb b.n b.vs b.vf (rowV b.v0 (.slice (some ⟨g,0,none⟩) (cT0 i (b.S s)).length cap) s 0) (rowV b.v1 (.slice (some ⟨g,0,none⟩) (cT0 i (b.S s)).length cap) s 1) b.rs b.fr (upS b.S s (cT0 i (b.S s))) (upS b.S s (cT0 i (b.S s)))):=hG;have HT:Hid (Out (fun j=>j=bb∨(vAt b.v0 b.v1 s).ownBlock=some j) w3 w7):=hT;have HVO:Hid ((vAt b.v0 b.v1 s).ownBlock=some g):=hvo;have HR7:Hid (w7.heap[w.heap.size]? = some (.cells #[.int .i64 0,.int .i64 0,.int .i64 0,.int .i64 0,.int .i64 0] 92 (0,0))):=hr7;have HP7:Hid (w7.heap[pb]? = some (.cells #[.int .i64 x.slot,.int .i64 x.age,.int .i64 s] 242 (0,0))):=hp7;have na:∀j,aoB b.ab b.vs b.vf j→j<w.heap.size:=fun j hj=>H.out.lt (Or.inr (Or.inl hj))
 have HS6:Hid (∀w',Out (fun j=>aoB b.ab b.vs b.vf j∨j=w.heap.size) w7 w'→(w'.cell? ⟨bb,0,none⟩=some (.pointer (some ⟨b.ab,0,none⟩))∧w'.cell? ⟨pb,0,none⟩=some (.int .i64 x.slot)∧w'.cell? ⟨pb,1,none⟩=some (.int .i64 x.age)∧Out (fun j=>aoB b.ab b.vs b.vf j∨j=w.heap.size) w7 w')):=fun w' ho=>by
  have lb:bb<w.heap.size:=H.out.lt (Or.inl rfl)
  have g1:=aE0 HG7.out.box ho (fun e=>by
   rcases e with e | e
   ·exact H.out.at_.notBox e
   ·omega)
  have g2:=aE0 HP7.out ho (fun e=>by
   rcases e with e | e
   ·have:=na _ e;omega
   ·omega)
  exact ⟨aA0 (j:=0) g1 rfl,aA0 (j:=0) g2 rfl,aA0 (j:=1) g2 rfl,ho⟩
 have HAT:Hid (soAt b.rs x.slot=(some x.o,x.age)):=H.out.ok.there s hs x hx;have hcl:b.rs.length≤1000000:=by have:=H.out.ok.so.small;have:=H.out.steps;omega
 have hfl:b.fr.length≤b.rs.length:=by have:=H.out.ok.so.cnt;omega
 have HAG:Hid (0≤x.age∧x.age≤1000000):=by
  have h1:=H.out.ok.so.ages x.slot;rw [HAT.out] at h1;have h2:=H.out.steps;have h3:0≤x.age∧x.age≤(m:Int):=h1;show _∧_;omega
 have hs0:=HS6.out w7 (Out.refl _ _);clear hr7 hp7 hG hT hvo hr6 ho6 hHeld e6 f6 q1 q2
 go_region_held3 (fun w'=>w'.cell? ⟨bb,0,none⟩=some (.pointer (some ⟨b.ab,0,none⟩))∧w'.cell? ⟨pb,0,none⟩=some (.int .i64 x.slot)∧w'.cell? ⟨pb,1,none⟩=some (.int .i64 x.age)∧Out (fun j=>aoB b.ab b.vs b.vf j∨j=w.heap.size) w7 w')
  ((refine HS6.out _ ?_;(repeat' first | assumption | exact aT0 (Out.refl _ _) | refine bQ0 ?_ (Or.inr rfl))))
  (first | (go_at_call 173;refine (qM1 b.ab 100 b.vs b.vf b.rs b.fr x.slot x.o x.age _ (HG7.out.ar.below (Below.refl _ _).drew lR7) HAT.out hcl hfl HAG.out).mono ?_;rintro e w8 ⟨rfl,vf',ha8,ho8,hw8⟩;have ho8:Out (aoB b.ab b.vs b.vf) w7 w8:=bA0 (aT0 (Out.refl _ _)) ho8;have hO8:Out (fun j=>aoB b.ab b.vs b.vf j∨j=w.heap.size) w7 w8:=ho8.mono (fun _ h=>Or.inl h);have hx8:=aE0 HR7.out ho8 (fun e=>Nat.lt_irrefl _ (na _ e));have y0:=aB0 (j:=0) hx8;have y1:=aB0 (j:=1) hx8;have y2:=aB0 (j:=2) hx8;have y3:=aB0 (j:=3) hx8;have y4:=aB0 (j:=4) hx8;have x0:=aA0 (j:=0) hx8 rfl;have x1:=aA0 (j:=1) hx8 rfl;have x2:=aA0 (j:=2) hx8 rfl;have x3:=aA0 (j:=3) hx8 rfl;have x4:=aA0 (j:=4) hx8 rfl;unfold Ord.agg;clear hx8))
 go_wp2;refine bodyPost_ret (by simp [results,Tryz.results120,go_sem,x0,x1,x2,x3,x4];try rfl) rfl ?_;refine ⟨rfl,_,⟨i,hil,hix,rfl⟩,nW1 H.out hm hs hx hil hix HO3.out hz HVO.out HT.out HG7.out ha8 ho8 hw8 ?_⟩;exact bQ0 (bQ0 (bQ0 (bQ0 (bQ0 (Out.refl _ _) rfl) rfl) rfl) rfl) rfl
end Go.Proofs.YtaelphbianmckaaGreatDoor
namespace Go.Proofs.YtaelphbianmckaaGreatDoor
open Go.RowKit Go.Shelf
attribute [local go_sem] Oper.semAt_some
def vQ0 (l:List Ord):Value:=match l with
 | []=>.tuple #[Ord.none_.agg,.iface 26 (.int .i64 8)]
 | o::_=>.tuple #[o.agg,.nilIface]
theorem aD1 {w:World} {k:Nat} {o:Obj} (h:w.heap[k]? = some o):k<w.heap.size:=(Array.getElem?_eq_some_iff.1 h).1
theorem xU0 {w W:World} {D:Nat} {x:Ord} {e:Value} {tm:Array Value} (h2:cP0 W w.heap.size x) (h3:W.heap[w.heap.size+1]? = some (.cells #[e] 43 (0,0))) (hK:W.heap[D]? = some (.deferred (some []))) (hBW:Below w.heap.size w W) (hD:w.heap.size+2≤D)
  (t4:tm.getD 4 undef=.pointer (some ⟨w.heap.size,0,none⟩):=by rfl) (t5:tm.getD 5 undef=.pointer (some ⟨w.heap.size+1,0,none⟩):=by rfl):
  bodyPostM Fence.wide 4 Tryz.prog Tryz.f279 (fun e' W'=>e'=.returned (.tuple #[x.agg,e])∧Below w.heap.size w W') Exit.ret { tmps:=tm,defers:=[{ target:=Target.collected D,args:=#[] }] } W:=by
 have hb:=belowK_b (n₀:=w.heap.size) (w:=w) lR7 W D _ (.deferred none) (by omega) hK rfl rfl;have hb2:=belowK_b (n₀:=w.heap.size+2) (w:=(w.alloc (.deferred none)).alloc (.deferred none)) (by simp) W D _ (.deferred none) (by simp;omega) hK rfl rfl;have q2:cP0 (W.putObj D (.deferred none)) w.heap.size x:=(hb2.block w.heap.size (by omega)).trans h2;have q3:(W.putObj D (.deferred none)).heap[w.heap.size+1]? = some (.cells #[e] 43 (0,0)):=(hb2.block (w.heap.size+1) (by omega)).trans h3;have t4':tm[4]?.getD undef=.pointer (some ⟨w.heap.size,0,none⟩):=by simpa using t4
 have t5':tm[5]?.getD undef=.pointer (some ⟨w.heap.size+1,0,none⟩):=by simpa using t5
 have a0:=aA0 (j:=0) q2 rfl;have a1:=aA0 (j:=1) q2 rfl;have a2:=aA0 (j:=2) q2 rfl;have a3:=aA0 (j:=3) q2 rfl;have a4:=aA0 (j:=4) q2 rfl;have b0:=aA0 (j:=0) q3 rfl;refine ⟨by simp,.inl ⟨_,_,rfl,run_takeDeferred hK,?_⟩⟩;refine ⟨.tuple #[x.agg,e],?_,rfl,hBW.trans hb⟩;unfold Ord.agg;simp [results,Tryz.results279,go_sem,t4',t5',a0,a1,a2,a3,a4,b0];try rfl
set_option maxRecDepth 100000 in
set_option maxHeartbeats 2000000 in
theorem iP1 (bb ab mb nn s:Nat) (vs vf v0 v1:Value) (rs:List Sot) (fr:List Nat) (S:Nat→List Ly) (hs:s<2) (hlen:(S s).length≤1000)
  (hth:∀x∈S s,soAt rs x.slot=(some x.o,x.age)) (w:World) (hB:BookAt w bb ab mb nn vs vf v0 v1 rs fr S) (side:Int) (hsd:side=(s:Int)+1):
  Calls Tryz.prog 279 #[.pointer (some ⟨bb,0,none⟩),.int .i64 side] w fun e W'=>e=.returned (vQ0 ((S s).map Ly.o))∧Below w.heap.size w W':=by
 have hss:(side == 1 || side == 2)=true:=by
  subst hsd
  match s,hs with
  | 0,_=>rfl
  | 1,_=>rfl
 have HS:Hid ((side == 1 || side == 2)=true):=hss;have hsub:IntKind.i64.wrap (side - 1)=(s:Int):=by rw [hsd,show (s:Int)+1 - 1=s by omega];exact IntWalk.i64_in _ (by omega)
 clear hss hsd;refine (callsIn_wide (n:=4)).1 ?_;refine callsIn_of_wp_marks Tryz.func279 rfl trivial ?_ rfl;simp only [Tryz.ntmps279,List.size_toArray,List.length_cons,List.length_nil,Nat.reduceAdd,Nat.reduceSub,Array.replicate_succ,Array.replicate_zero,List.push_toArray,List.append_toArray,List.nil_append,List.cons_append]
 gi_wp2_with fail
 refine ⟨trivial,(callsIn_wide.2 (iU0 side _)).mono ?_⟩;rintro e w' ⟨rfl,hw⟩;replace hw:=hw.symm;subst hw;rw [HS.out]
 gi_wp2_with fail
 refine ⟨trivial,(callsIn_wide.2 (nK0 bb _ _)).mono ?_⟩;rintro e w' ⟨rfl,rfl⟩
 gi_wp2_with fail
 have hB1:=bel2 w (.cells #[.int .i64 0,.int .i64 0,.int .i64 0,.int .i64 0,.int .i64 0] 92) (.cells #[.nilIface] 43);have bO:=eG0 w (.cells #[.int .i64 0,.int .i64 0,.int .i64 0,.int .i64 0,.int .i64 0] 92) (.cells #[.nilIface] 43);have bN:=dK0 w (.cells #[.int .i64 0,.int .i64 0,.int .i64 0,.int .i64 0,.int .i64 0] 92) (.cells #[.nilIface] 43);obtain ⟨w2,hw2⟩:∃w2,(w.alloc (.cells #[.int .i64 0,.int .i64 0,.int .i64 0,.int .i64 0,.int .i64 0] 92)).alloc (.cells #[.nilIface] 43)=w2:=⟨_,rfl⟩;have hz2:w2.heap.size=w.heap.size+1+1:=by rw [←hw2];simp
 rw [hw2] at hB1 bO bN ⊢;clear hw2;have hB2:=bel2 w2 (.cells #[.pointer (some ⟨bb,0,none⟩)] 161) (.cells #[.int .i64 s] 3);have bB:=eG0 w2 (.cells #[.pointer (some ⟨bb,0,none⟩)] 161) (.cells #[.int .i64 s] 3);have bS:=dK0 w2 (.cells #[.pointer (some ⟨bb,0,none⟩)] 161) (.cells #[.int .i64 s] 3);obtain ⟨W0,hW0⟩:∃W0,(w2.alloc (.cells #[.pointer (some ⟨bb,0,none⟩)] 161)).alloc (.cells #[.int .i64 s] 3)=W0:=⟨_,rfl⟩;have hsz:W0.heap.size=w.heap.size+4:=by rw [←hW0];simp;omega
 rw [hW0] at hB2 bB bS ⊢;clear hW0;have bO:=aD0 bO hB2 lR7;have bN:=aD0 bN hB2 lR7;have hB0:Below w.heap.size w W0:=aC0 hB1 hB2;rw [hz2] at bB bS;have HK:∀k,pbB bb ab mb vs vf v0 v1 k→k<w.heap.size:=fun k hk=>hB.lt hk
 clear hB1 hB2
 refine wpIn_rangeFunc_ownH (F:=Fence.wide) (n:=4) rfl (by decide) (gf:=254) (lb:=#[.pointer (some ⟨w.heap.size+1+1,0,none⟩),.pointer (some ⟨w.heap.size+1+1+1,0,none⟩)]) rfl trivial (enters_of Tryz.func254 (by kernel_rfl) rfl)
  (nQ1 3 (by decide) (w.heap.size+1+1) (w.heap.size+1+1+1) w.heap.size bb ab mb nn s vs vf v0 v1 rs fr S hs hlen hth HK W0 (by omega) (hB.below hB0 lR7) bB bS) nO1 (nP1 (by omega)) (Below.refl _ _) (fun _=>rfl)
  (fun pre W=>(pre=[]∧cP0 W w.heap.size Ord.none_∧W.heap[w.heap.size+1]? = some (.cells #[.nilIface] 43 (0,0)))∧Below w.heap.size w W)
  (fun c pre W=>(c=.ret∧∃x,pre=[x]∧cP0 W w.heap.size x∧W.heap[w.heap.size+1]? = some (.cells #[.nilIface] 43 (0,0)))∧Below w.heap.size w W)
  (OwnFrom.and (Own.from (fun s A B row hs hg hr=>⟨hs.1,eO0 hs.2.1 hg hr,eO0 hs.2.2 hg hr⟩) _) (ownFrom_below lR7 (by omega)))
  (fun c=>OwnFrom.and (Own.from (fun s A B row hs hg hr=>by obtain ⟨g0,x,g1,g2,g3⟩:=hs;exact ⟨g0,x,g1,eO0 g2 hg hr,eO0 g3 hg hr⟩) _) (ownFrom_below lR7 (by omega)))
  ⟨⟨rfl,bO,bN⟩,hB0⟩
  (fun x a' W=>∃Bx,cP0 W Bx x∧a'={ tmps:=#[.pointer (some ⟨bb,0,none⟩),.int .i64 side,undef,undef,.pointer (some ⟨w.heap.size,0,none⟩),.pointer (some ⟨w.heap.size+1,0,none⟩),.pointer (some ⟨Bx,0,none⟩),.int .i64 side,.bool true,.bool false,undef,undef,.pointer (some ⟨bb,0,none⟩),.int .i64 side,.int .i64 s,.func (.func 254) #[] #[.pointer (some ⟨w.heap.size+1+1,0,none⟩),.pointer (some ⟨w.heap.size+1+1+1,0,none⟩)],Ord.agg x,undef,undef,undef],defers:=[] })
  (fun x a' _ X Y row hs hg hr=>by obtain ⟨Bx,h2,h3⟩:=hs;exact ⟨Bx,eO0 h2 hg (fun r e=>(hr r e).2),h3⟩)
  ?assign ?body ?done ?stop
 case assign=>
  rintro l pre x W K ⟨⟨h1,h2,h3⟩,hBW⟩ hK;have lS:=hBW.size;unfold Ord.agg at hK ⊢
  gi_wp2
  refine hK _ _ ((KeepsOthers.alloc _ _).from _) (KpL.of_below (bel1 _ _) lS) ⟨⟨h1,aD0 h2 (bel1 _ _) lR7,aD0 h3 (bel1 _ _) lR7⟩,hBW.alloc hBW.size _⟩ ⟨W.heap.size,heap_alloc_new _ _,rfl⟩
 case body=>
  rintro l pre x a' W hl ⟨r,hr⟩ ⟨⟨rfl,h2,h3⟩,hBW⟩ ⟨Bx,bX,rfl⟩ hlt;have c0:=aA0 (j:=0) bX rfl;have c1:=aA0 (j:=1) bX rfl;have c2:=aA0 (j:=2) bX rfl;have c3:=aA0 (j:=3) bX rfl;have c4:=aA0 (j:=4) bX rfl;have d0:=aB0 (j:=0) h2;have d1:=aB0 (j:=1) h2;have d2:=aB0 (j:=2) h2;have d3:=aB0 (j:=3) h2;have d4:=aB0 (j:=4) h2;have e0:=aB0 (j:=0) h3;have E0:=aA0 (j:=0) h3 rfl;have D0:=aA0 (j:=0) h2 rfl;have D1:=aA0 (j:=1) h2 rfl;have D2:=aA0 (j:=2) h2 rfl;have D3:=aA0 (j:=3) h2 rfl;have D4:=aA0 (j:=4) h2 rfl;have H2:Hid _:=h2;have H3:Hid _:=h3;have HBW:Hid (Below w.heap.size w W):=hBW;clear h2 h3 hBW bX hr;unfold Ord.agg
  gi_wp2_with fail
  have o5:Out (fun j=>j=w.heap.size) W _:=bQ0 (p:=⟨w.heap.size,4,none⟩) (u:=.int .i64 x.qty) (bQ0 (p:=⟨w.heap.size,3,none⟩) (u:=.int .i64 x.price) (bQ0 (p:=⟨w.heap.size,2,none⟩) (u:=.int .i64 x.kind) (bQ0 (p:=⟨w.heap.size,1,none⟩) (u:=.int .i64 x.side) (bQ0 (p:=⟨w.heap.size,0,none⟩) (u:=.int .i64 x.id) (Out.refl _ _) rfl) rfl) rfl) rfl) rfl;have g2:=aH0 (j:=4) (.int .i64 x.qty) (aH0 (j:=3) (.int .i64 x.price) (aH0 (j:=2) (.int .i64 x.kind) (aH0 (j:=1) (.int .i64 x.side) (aH0 (j:=0) (.int .i64 x.id) H2.out))));have g3:=aH0 (j:=0) .nilIface (aE0 H3.out o5 (by simp));refine ⟨((((((KeepsOthers.setCell _ _ _).trans (KeepsOthers.setCell _ _ _)).trans (KeepsOthers.setCell _ _ _)).trans (KeepsOthers.setCell _ _ _)).trans (KeepsOthers.setCell _ _ _)).trans (KeepsOthers.setCell _ _ _)).from _,⟨rfl,x,rfl,aE0 g2 (aN0 _ ⟨w.heap.size+1,0,none⟩ _) (by simp),g3⟩,?_⟩;exact HBW.out.trans (((((((Below.refl _ W).setCell (p:=⟨w.heap.size,0,none⟩) (by simp) _).setCell (p:=⟨w.heap.size,1,none⟩) (by simp) _).setCell (p:=⟨w.heap.size,2,none⟩) (by simp) _).setCell (p:=⟨w.heap.size,3,none⟩) (by simp) _).setCell (p:=⟨w.heap.size,4,none⟩) (by simp) _).setCell (p:=⟨w.heap.size+1,0,none⟩) (by simp) _)
 case done=>
  rintro D ys W hD rfl ⟨⟨h1,h2,h3⟩,hBW⟩ hK;have d0:=aB0 (j:=0) h2;have d1:=aB0 (j:=1) h2;have d2:=aB0 (j:=2) h2;have d3:=aB0 (j:=3) h2;have d4:=aB0 (j:=4) h2;have e0:=aB0 (j:=0) h3;have E0:=aA0 (j:=0) h3 rfl;have D0:=aA0 (j:=0) h2 rfl;have D1:=aA0 (j:=1) h2 rfl;have D2:=aA0 (j:=2) h2 rfl;have D3:=aA0 (j:=3) h2 rfl;have D4:=aA0 (j:=4) h2 rfl
  gi_wp2
  have o5:Out (fun j=>j=w.heap.size) W _:=bQ0 (p:=⟨w.heap.size,4,none⟩) (u:=.int .i64 0) (bQ0 (p:=⟨w.heap.size,3,none⟩) (u:=.int .i64 0) (bQ0 (p:=⟨w.heap.size,2,none⟩) (u:=.int .i64 0) (bQ0 (p:=⟨w.heap.size,1,none⟩) (u:=.int .i64 0) (bQ0 (p:=⟨w.heap.size,0,none⟩) (u:=.int .i64 0) (Out.refl _ _) rfl) rfl) rfl) rfl) rfl;have g2:=aH0 (j:=4) (.int .i64 0) (aH0 (j:=3) (.int .i64 0) (aH0 (j:=2) (.int .i64 0) (aH0 (j:=1) (.int .i64 0) (aH0 (j:=0) (.int .i64 0) h2))));have g2:=aE0 g2 (aN0 _ ⟨w.heap.size+1,0,none⟩ (.iface 26 (.int .i64 8))) (by simp);have g3:=aH0 (j:=0) (.iface 26 (.int .i64 8)) (aE0 h3 o5 (by simp));have hbw:=hBW.trans (((((((Below.refl _ W).setCell (p:=⟨w.heap.size,0,none⟩) (by simp) (.int .i64 0)).setCell (p:=⟨w.heap.size,1,none⟩) (by simp) (.int .i64 0)).setCell (p:=⟨w.heap.size,2,none⟩) (by simp) (.int .i64 0)).setCell (p:=⟨w.heap.size,3,none⟩) (by simp) (.int .i64 0)).setCell (p:=⟨w.heap.size,4,none⟩) (by simp) (.int .i64 0)).setCell (p:=⟨w.heap.size+1,0,none⟩) (by simp) (.iface 26 (.int .i64 8)));have lD:D<W.heap.size:=aD1 hK;have hK6:=((aN0 _ ⟨w.heap.size+1,0,none⟩ (.iface 26 (.int .i64 8))).block D (Nat.lt_of_lt_of_le lD o5.size) (by show ¬(D=w.heap.size+1);omega)).trans ((o5.block D lD (by show ¬(D=w.heap.size);omega)).trans hK);clear o5;have hbe:vQ0 ((S s).map Ly.o)=.tuple #[Ord.none_.agg,.iface 26 (.int .i64 8)]:=by rw [h1];rfl
  rw [hbe];exact xU0 g2 g3 hK6 hbw (by omega)
 case stop=>
  rintro D c pre W hD hpre ⟨⟨rfl,x,rfl,h2,h3⟩,hBW⟩ hK
  have hbe:vQ0 ((S s).map Ly.o)=.tuple #[x.agg,.nilIface]:=by
   obtain ⟨r,hr⟩:=hpre;rw [←hr];rfl
  gi_wp2
  rw [hbe];exact xU0 h2 h3 hK hBW (by omega)
theorem mH1 (bb m s:Nat) (b:BkS) (w:World) (h:Bk w bb m b) (hs:s<2) (side:Int) (hsd:side=(s:Int)+1):
  Calls Tryz.prog 279 #[.pointer (some ⟨bb,0,none⟩),.int .i64 side] w fun e W'=>e=.returned (vQ0 ((b.S s).map Ly.o))∧Below w.heap.size w W':=
 iP1 bb b.ab b.mb b.n s b.vs b.vf b.v0 b.v1 b.rs b.fr b.S hs (by have h1:=(nG0 b.S [] hs).2;have h2:=h.ok.most;omega) (h.ok.there s hs) w h.at_ side hsd
theorem mS0 (bb m s:Nat) (b:BkS) (w:World) (h:Bk w bb m b) (hs:s<2) (side:Int) (hsd:side=(s:Int)+1):
  Calls Tryz.prog 133 #[.pointer (some ⟨bb,0,none⟩),.int .i64 side] w
   fun e W'=>∃v,e=.returned (.tuple #[v,.nilIface])∧W'.ownsRow w.heap.size 92 5 v (b.S s).length (oV ((b.S s).map Ly.o))∧Below w.heap.size w W':=
 qO1 bb b.ab b.mb b.n s b.vs b.vf b.v0 b.v1 b.rs b.fr b.S hs (by have h1:=(nG0 b.S [] hs).2;have h2:=h.ok.most;omega) (h.ok.there s hs) w h.at_ side hsd
end Go.Proofs.YtaelphbianmckaaGreatDoor
namespace Go.Proofs.YtaelphbianmckaaGreatDoor
open Go.RowKit
def nP0 (w W:World) (bb:Nat) (b b':BkS):Prop:=Out (b.foot bb) w W∧Went w (b.foot bb) (b'.foot bb)
theorem nP0.refl (w:World) (bb:Nat) (b:BkS):nP0 w w bb b b:=⟨Out.refl _ _,Went.refl _ _⟩
theorem nP0.goes {w W W':World} {bb m:Nat} {b b1 b2:BkS} (h:nP0 w W bb b b1) (hg:Goes W W' bb m b1 b2):nP0 w W' bb b b2:=
 ⟨h.1.trans hg.2.1 h.2,fun k hk=>(hg.2.2 k hk).elim (h.2 k) (fun e=>Or.inr (Nat.le_trans h.1.size e))⟩
theorem nP0.below {w W W':World} {bb:Nat} {b b1:BkS} (h:nP0 w W bb b b1) (hb:Below W.heap.size W W'):nP0 w W' bb b b1:=
 ⟨h.1.trans (Out.of_below (S:=b1.foot bb) hb lR7) h.2,h.2⟩
end Go.Proofs.YtaelphbianmckaaGreatDoor
