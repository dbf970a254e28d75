/- A part of the proof of EnginePlays. -/
import Derived.Test.YtjdkagafdnchhaaGreatDoorPB
import Derived.Shelf.Spec.SlicesInsert
import Derived.Lib.AppendZerosOnto
import Derived.Deep.RegionLaw
import Derived.Laws.CopyRow
import Derived.Test.YtjdkagafdnchhaaGreatDoorRows
import Derived.WalkKit
import Derived.WalkSpells
import Derived.WalkLawsBesides
import Derived.Handy
import Derived.BigQuiet
import Derived.OwnWalk
import Derived.OneCell
import Derived.Deep.QuietTactic
import Derived.Deep.AppendLies
import Derived.Test.YtjdkagafdnchhaaGreatDoorPA
namespace Go.Proofs.YtjdkagafdnchhaaGreatDoor
open Go.RowKit Go.Shelf
theorem gX0 {P:Program} (W:World) (dT sT ty elem:TypeId) (g o dLen dCap:Nat) (a:Addr) (sLen sCap:Nat) (cur:Array Value) (t:TypeId) (cs:List Value) (k:Nat)
  (hu:P.underlying dT=some (.slice elem)) (hs:(P.info? elem).map (·.size)=some 2) (hg:W.heap[g]? = some (.cells cur t (0,0))) (hk:Nat.min sLen dLen=k) (hn:cs.length=k*2)
  (hsrc:∀j v,cs[j]? = some v→W.cell? (a.add j)=some v) (hfit:o+cs.length≤cur.size) (h1:∀v∈cs,v.oneCell'=true):
  ∃W',(Builtin.copy_ #[dT,sT] ty #[.slice (some ⟨g,o,none⟩) dLen dCap,.slice (some a) sLen sCap]).run P W=.ok (goInt k) W'
   ∧W'.heap[g]? = some (.cells (cur.toList.take o++cs++cur.toList.drop (o+cs.length)).toArray t (0,0))∧Out (fun j=>j=g) W W':=by
 refine ⟨W.setRow g (cur.toList.take o++cs++cur.toList.drop (o+cs.length)).toArray,?_,setRow_heap W g _ _ t _ hg,⟨rfl,rfl,rfl,by simp [World.setRow],fun j _ hj=>setRow_other W g j _ hj⟩⟩;have hst:=run_storeCells_at P g o t cs 0 cur W hg (by simpa using hfit) h1;cases hq:P.info? elem with
 | none=>simp [hq] at hs
 | some i=>
  have hi:i.size=2:=by simpa [hq] using hs
  have hl:=run_firstCells_some (P:=P) W 2 k a sLen sCap cs hn hsrc;simp [Builtin.copy_,run_underlying hu,Builtin.lenOf,sizeOf,typeInfo,hq,hi,hk,hl,hst]
theorem Tryz.infoH:(Tryz.prog.info? 169).map (fun i=>(i.zero,i.size,i.bytes))=some (some (.agg #[.int .i64 0,.int .i64 0]),2,16):=by kernel_rfl
theorem Tryz.sizeH:(Tryz.prog.info? 169).map (·.size)=some 2:=by kernel_rfl
theorem Tryz.sizeOfH (w:World):(Go.sizeOf 169).run Tryz.prog w=.ok 2 w:=by kernel_rfl
def dR0 (i:Nat) (x:Ly) (l:List Ly):List Ly:=l.take i++x::l.drop i
theorem mO0 {i:Nat} (x:Ly) {l:List Ly} (h:i≤l.length):(dR0 i x l).length=l.length+1:=by simp [dR0];omega
theorem yS0 (i:Nat) (x:Ly) (l:List Ly):hV (dR0 i x l)=hV (l.take i)++(.int .i64 x.slot::.int .i64 x.age::hV (l.drop i)):=by unfold dR0;rw [nR0];rfl
theorem dF1 (x:Ly) (l:List Ly):dR0 l.length x l=l++[x]:=by simp [dR0]
theorem nB0 (i:Nat) (l:List Ly):hV l=hV (l.take i)++hV (l.drop i):=by rw [←nR0,List.take_append_drop]
theorem oA1 {i:Nat} {l:List Ly} (h:i≤l.length):(hV l).take (i*2)=hV (l.take i):=by
 rw [nB0 i l,List.take_append_of_le_length (by rw [eU0,List.length_take];omega),List.take_of_length_le (by rw [eU0,List.length_take];omega)]
def lR0 (w W':World) (ob:Option Nat) (v':Value) (l':List Ly):Prop:=
 ∃g cap,v'=.slice (some ⟨g,0,none⟩) l'.length cap∧W'.ownsRow 0 169 2 v' l'.length (hV l')∧Out (fun k=>ob=some k) w W'∧(ob=some g∨w.heap.size≤g)
set_option maxRecDepth 100000 in
set_option maxHeartbeats 4000000 in
theorem aZ1 (vb:Nat) (v:Value) (l:List Ly) (x:Ly) (w:World) (hr:w.ownsRow 0 169 2 v l.length (hV l)) (hl:l.length≤1000) (hvb:w.heap[vb]? = some (.cells #[.int .i64 x.slot,.int .i64 x.age] 169 (0,0))):
  Calls Tryz.prog 150 #[v,.int .i64 l.length,.slice (some ⟨vb,0,none⟩) 1 1] w fun e W'=>∃v',e=.returned v'∧lR0 w W' v.ownBlock v' (l++[x]):=by
 obtain ⟨i0,hi,hz0,hz1,hz2⟩:=info_parts Tryz.infoH;obtain ⟨ao,cap,rfl,hcap,hcm⟩:=bB0 hr;have HR:Hid (w.ownsRow 0 169 2 (.slice ao l.length cap) l.length (hV l)):=hr;obtain ⟨ob,hob⟩:∃ob,(Value.slice ao l.length cap).ownBlock=ob:=⟨_,rfl⟩;rw [hob];have HOB:Hid ((Value.slice ao l.length cap).ownBlock=ob):=hob;clear hr hob;have q1:(0:Int)≤(l.length:Int):=by omega
 have q2:l.length≤cap:=hcap;go_enter Tryz.func150,Tryz.ntmps150;go_wp2_with (at_builtin;refine wpList_append_lies _ rfl _ _ 154 rfl 0 169 i0 (.agg #[.int .i64 0,.int .i64 0]) 2 16 Tryz.underlying154 hi hz0 hz1 hz2 rfl (by decide) (.slice ao l.length cap) l.length (hV l) rfl HR.out ⟨vb,0,none⟩ 1 1 [.int .i64 x.slot,.int .i64 x.age] rfl rfl (World.news_of_block (cs:=#[.int .i64 x.slot,.int .i64 x.age]) (t:=169) (fr:=(0,0)) hvb) (by simp [Value.oneCell']) (by decide) (by unfold maxLen;omega) (by omega) (Nat.zero_le _) w.heap.size rfl ?_;intro g cg w1 hown hgrow hat hlt)
 all_goals go_ret
 all_goals refine ⟨_,rfl,g,cg,by rw [List.length_append];rfl,?_,Out.of_grown hgrow (fun k hk=>HOB.out ▸ hk),(HOB.out ▸ hat).imp id (fun e=>by omega)⟩
 all_goals rw [List.length_append,List.length_singleton,nR0]
 all_goals exact hown
theorem iU1 {A B C:List Value} (x0 x1:Value) (hC:2≤C.length):
  (((A++(B++C)).take (A.length+2)++B++(A++(B++C)).drop (A.length+2+B.length)).take A.length++[x0,x1]++((A++(B++C)).take (A.length+2)++B++(A++(B++C)).drop (A.length+2+B.length)).drop (A.length+2))=A++(x0::x1::(B++C.drop 2)):=by
 have h1:(A++(B++C)).take (A.length+2)=A++(B++C).take 2:=by
  rw [List.take_append,List.take_of_length_le (by omega)]
  congr 2;omega
 have h2:(A++(B++C)).drop (A.length+2+B.length)=C.drop 2:=by
  rw [List.drop_append,List.drop_of_length_le (by omega),List.nil_append,List.drop_append,List.drop_of_length_le (by omega),List.nil_append]
  congr 1;omega
 have h3:((B++C).take 2).length=2:=by simp;omega
 rw [h1,h2];generalize (B++C).take 2=T at h3;simp only [List.append_assoc];rw [List.take_left',List.drop_append,List.drop_of_length_le (by omega),List.nil_append]
 ·rw [show A.length+2 - A.length=T.length by omega,List.drop_left];rfl
 ·rfl
set_option maxRecDepth 100000 in
set_option maxHeartbeats 4000000 in
theorem wE0 (vb g cap i:Nat) (l:List Ly) (x:Ly) (w:World) (hr:w.ownsRow 0 169 2 (.slice (some ⟨g,0,none⟩) l.length cap) l.length (hV l)) (hl:l.length≤1000) (hi:i<l.length) (hroom:l.length+1≤cap)
  (hvb:w.heap[vb]? = some (.cells #[.int .i64 x.slot,.int .i64 x.age] 169 (0,0))) (hne:vb≠g):
  Calls Tryz.prog 150 #[.slice (some ⟨g,0,none⟩) l.length cap,.int .i64 i,.slice (some ⟨vb,0,none⟩) 1 1] w fun e W'=>∃v',e=.returned v'∧lR0 w W' (some g) v' (dR0 i x l):=by
 rcases hr.2 with ⟨h',_⟩ | ⟨g',cap',cur,h',_,hg,hnc,hcm,hcs,ht⟩
 ·simp at h'
 simp only [Value.slice.injEq,Option.some.injEq,Addr.mk.injEq,and_true,true_and] at h';obtain ⟨rfl,rfl⟩:=h';clear hr;unfold maxLen at hcm
 have hcut:cur.toList=hV (l.take i)++(hV (l.drop i)++cur.toList.drop (l.length*2)):=by
  rw [←List.append_assoc,←nB0,←ht,List.take_append_drop]
 have hA:(hV (l.take i)).length=i*2:=by rw [eU0,List.length_take];omega
 have hBl:(hV (l.drop i)).length=(l.length - i)*2:=by rw [eU0,List.length_drop]
 have hCl:(cur.toList.drop (l.length*2)).length=(cap - l.length)*2:=by rw [List.length_drop,Array.length_toList,hcs];omega
 have hsa:w.shape? vb=some (169,2):=by simp [World.shape?,hvb]
 have hsb:w.shape? g=some (169,cap*2):=by simp [World.shape?,hg,hcs]
 have hov:∀lb cb,(callFunc 189 #[.slice (some ⟨vb,0,none⟩) 1 1,.slice (some ⟨g,(i+1)*2,none⟩) lb cb]).run Tryz.prog w=.ok (.value (.bool false)) w:=fun lb cb=>by
  rw [run_callFunc_extern Tryz.func189 (by kernel_rfl) (by kernel_rfl) (by kernel_rfl) (e:=Extern.SlicesOverlaps.overlaps #[154,154] #[4]) (by kernel_rfl),
   Lib.run_overlaps_apart w 154 4 169 Tryz.underlying154 2 Tryz.sizeOfH ⟨vb,0,none⟩ ⟨g,(i+1)*2,none⟩ 1 1 lb cb hne 169 169 2 (cap*2) hsa hsb (by omega) (aB0 hvb) (aB0 hvb)]
  rfl
 have hsrc:∀j u,(hV (l.drop i))[j]? = some u→w.drew.cell? ((⟨g,i*2,none⟩:Addr).add j)=some u:=fun j u hj=>by
  rw [Addr.add_lit];refine aA0 (w:=w) hg ?_;rw [←Array.getElem?_toList,hcut,List.getElem?_append_right (by omega),hA,show i*2+j - i*2=j by omega,List.getElem?_append_left (by have:=(List.getElem?_eq_some_iff.1 hj).1;omega)];exact hj
 obtain ⟨W1,hr1,hg1,ho1⟩:=gX0 (P:=Tryz.prog) w.drew 154 154 3 169 g ((i+1)*2) (l.length+1 - (i+1)) (cap - (i+1)) ⟨g,i*2,none⟩ (l.length+1 - i) (cap - i) cur 169 (hV (l.drop i)) (l.length - i)
  Tryz.underlying154 Tryz.sizeH hg (by simp only [Nat.min_def];split <;> omega) hBl hsrc (by rw [hBl,hcs];omega) (mL1 _)
 have hvb1:W1.heap[vb]? = some (.cells #[.int .i64 x.slot,.int .i64 x.age] 169 (0,0)):=aE0 (w:=w.drew) hvb ho1 hne;generalize hcur1:(cur.toList.take ((i+1)*2)++hV (l.drop i)++cur.toList.drop ((i+1)*2+(hV (l.drop i)).length)).toArray=cur1 at hg1
 have hcz:cur1.size=cap*2:=by
  rw [←hcur1];simp [hBl];omega
 obtain ⟨W2,hr2,hg2,ho2⟩:=gX0 (P:=Tryz.prog) W1 154 154 3 169 g (i*2) (l.length+1 - i) (cap - i) ⟨vb,0,none⟩ 1 1 cur1 169 [.int .i64 x.slot,.int .i64 x.age] 1
  Tryz.underlying154 Tryz.sizeH hg1 (by simp only [Nat.min_def];split <;> omega) rfl (World.news_of_block (cs:=#[.int .i64 x.slot,.int .i64 x.age]) (t:=169) (fr:=(0,0)) hvb1) (by rw [hcz];simp;omega) (by simp [Value.oneCell'])
 have HFIN:Hid (lR0 w W2 (some g) (.slice (some ⟨g,0,none⟩) (l.length+1) cap) (dR0 i x l)):=by
  have hlen:=mO0 x (Nat.le_of_lt hi);refine ⟨g,cap,by rw [hlen],⟨by rw [eU0],Or.inr ⟨g,cap,_,by rw [hlen],Nat.zero_le _,hg2,by omega,by unfold maxLen;omega,?_,?_⟩⟩,?_,Or.inl rfl⟩
  ·simp [hcz];omega
  ·have hrow:=iU1 (A:=hV (l.take i)) (B:=hV (l.drop i)) (C:=cur.toList.drop (l.length*2)) (.int .i64 x.slot) (.int .i64 x.age) (by omega);rw [←hcut,hA,show i*2+2=(i+1)*2 by omega,show cur.toList.take ((i+1)*2)++hV (l.drop i)++cur.toList.drop ((i+1)*2+(hV (l.drop i)).length)=cur1.toList by rw [←hcur1]] at hrow;rw [show i*2 + [Value.int .i64 x.slot,Value.int .i64 x.age].length=(i+1)*2 by simp;omega];dsimp only;rw [hrow,yS0,hlen,List.take_append,List.take_of_length_le (by omega),hA,show (l.length+1)*2 - i*2=(hV (l.drop i)).length+1+1 by omega,List.take_succ_cons,List.take_succ_cons,List.take_left]
  ·exact (Out.of_below (Below.refl w.heap.size w).drew lR7).trans ((ho1.mono (fun j hj=>by rw [hj])).trans (ho2.mono (fun j hj=>by rw [hj])) (Went.refl _ _)) (Went.refl _ _)
 clear hg1 hg2 ho1 ho2 hsrc hcut hA hBl hCl hsa hsb hcur1 hcz hvb1 hg hcs ht;have q0:IntKind.i64.wrap ((i:Int)+1)=(i:Int)+1:=IntWalk.i64_in _ (by omega);have q1:(0:Int)≤(i:Int)+1:=by omega
 have q2:i≤l.length:=by omega
 have q3:((i:Int)+1).toNat=i+1:=by omega
 have q4:¬(cap=i+1):=by omega
 have q5:(i:Int)≤(l.length:Int)+1:=by omega
 have q6:¬(cap=i):=by omega
 have q7:((i:Int) == (l.length:Int))=false:=beq_eq_false_iff_ne.2 (by omega);go_enter Tryz.func150,Tryz.ntmps150;go_wp2_with (simp only [hov]);go_region_law (refine step_copy_runI rfl _ _ 154 154 rfl _ _ (by simp [Act.eval,Act.put]) (by simp [Act.eval,Act.put]) hr1 ?_);go_wp2_with (at_builtin;refine wpList_copy_runI _ rfl _ _ 154 154 rfl _ _ rfl rfl hr2 ?_);go_ret;exact ⟨_,rfl,HFIN.out⟩
theorem yT0 (n:Nat):(Builtin.zeroCells (Value.agg #[.int .i64 0,.int .i64 0]).cells n).toList.length=n*2:=by
 simp [Builtin.zeroCells,Value.cells]
theorem iV1 {A B Z:List Value} (x0 x1:Value):
  (((A++Z).take A.length++[x0,x1]++(A++Z).drop (A.length+2)).take (A.length+2)++B++((A++Z).take A.length++[x0,x1]++(A++Z).drop (A.length+2)).drop (A.length+2+B.length))=A++(x0::x1::(B++Z.drop (2+B.length))):=by
 have h1:(A++Z).take A.length++[x0,x1]++(A++Z).drop (A.length+2)=A++[x0,x1]++Z.drop 2:=by
  rw [List.take_left,List.drop_append,List.drop_of_length_le (by omega),List.nil_append]
  congr 2;omega
 rw [h1,List.take_left' (by simp),List.drop_append,List.drop_of_length_le (by simp),List.nil_append,List.drop_drop];simp
set_option maxRecDepth 100000 in
set_option maxHeartbeats 4000000 in
theorem wF0 (vb g cap i:Nat) (l:List Ly) (x:Ly) (w:World) (hr:w.ownsRow 0 169 2 (.slice (some ⟨g,0,none⟩) l.length cap) l.length (hV l)) (hl:l.length≤1000) (hi:i<l.length) (hroom:cap<l.length+1)
  (hvb:w.heap[vb]? = some (.cells #[.int .i64 x.slot,.int .i64 x.age] 169 (0,0))):
  Calls Tryz.prog 150 #[.slice (some ⟨g,0,none⟩) l.length cap,.int .i64 i,.slice (some ⟨vb,0,none⟩) 1 1] w fun e W'=>∃v',e=.returned v'∧lR0 w W' (some g) v' (dR0 i x l):=by
 obtain ⟨i0,hi0,hz0,hzs,hzb⟩:=info_parts Tryz.infoH;rcases hr.2 with ⟨h',_⟩ | ⟨g',cap',cur,h',_,hg,hnc,hcm,hcs,ht⟩
 ·simp at h'
 simp only [Value.slice.injEq,Option.some.injEq,Addr.mk.injEq,and_true,true_and] at h';obtain ⟨rfl,rfl⟩:=h';clear hr;obtain rfl:cap=l.length:=by omega
 have hcut:cur.toList=hV l:=by
  rw [←ht,List.take_of_length_le (by rw [Array.length_toList,hcs];omega)]
 have hA:(hV (l.take i)).length=i*2:=by rw [eU0,List.length_take];omega
 have hBl:(hV (l.drop i)).length=(l.length - i)*2:=by rw [eU0,List.length_drop]
 have hold:(Builtin.firstCells i0.size i (.slice (some ⟨g,0,none⟩) i l.length)).run Tryz.prog w.drew=.ok (hV (l.take i)).toArray w.drew:=by
  rw [hzs]
  exact run_firstCells_some w.drew 2 i ⟨g,0,none⟩ i l.length (hV (l.take i)) hA (fun j v hj=>by
   rw [Addr.add_lit];refine aA0 (w:=w) hg ?_;rw [←Array.getElem?_toList,hcut,nB0 i l,Nat.zero_add,List.getElem?_append_left (List.getElem?_eq_some_iff.1 hj).1];exact hj)
 have hkk:(l.length:Int)+1 - (i:Int)=((l.length+1 - i:Nat):Int):=by omega
 have hik:i+(l.length+1 - i)=l.length+1:=by omega
 have hrz:=Lib.run_append_grow_zeros w 154 3 154 169 i0 _ .i64 .i64 Tryz.underlying154 Tryz.underlying3 hi0 hz0 (some ⟨g,0,none⟩) i l.length (hV (l.take i)) hold (l.length+1 - i) (by omega) (by rw [hzs];decide) (by omega) (by omega) (by rw [hzb];omega) (by rw [hzb,hik];exact growslice_fits (by omega) (by omega));rw [hik,←hkk] at hrz;have hGn:=grownCap_ge w (l.length+1) l.length 169;have hGm:=grownCap_le_maxLen w (l.length+1) l.length 169 (by unfold maxLen;omega);generalize grownCap w (l.length+1) l.length 169=G at hrz hGn hGm;generalize hrow:(hV (l.take i)).toArray++Builtin.zeroCells (Value.agg #[.int .i64 0,.int .i64 0]).cells (l.length+1 - i)++Builtin.zeroCells (Value.agg #[.int .i64 0,.int .i64 0]).cells (G - (l.length+1))=ROW at hrz
 have hRL:∃Z:List Value,ROW.toList=hV (l.take i)++Z∧Z.length=(G - i)*2:=by
  refine ⟨(Builtin.zeroCells (Value.agg #[.int .i64 0,.int .i64 0]).cells (l.length+1 - i)).toList++(Builtin.zeroCells (Value.agg #[.int .i64 0,.int .i64 0]).cells (G - (l.length+1))).toList,?_,?_⟩
  ·rw [←hrow];simp
  ·rw [List.length_append,yT0,yT0];omega
 obtain ⟨Z,hRZ,hZl⟩:=hRL
 have hRs:ROW.size=G*2:=by
  rw [←Array.length_toList,hRZ,List.length_append,hA,hZl];omega
 clear hrow hold;have hgN:(w.drew.alloc (.cells ROW 169)).heap[w.heap.size]? = some (.cells ROW 169 (0,0)):=heap_alloc_new w.drew _;have hbN:Below w.heap.size w (w.drew.alloc (.cells ROW 169)):=(Below.refl w.heap.size w).drew.alloc lR7 _;generalize w.drew.alloc (.cells ROW 169)=WN at hrz hgN hbN;have lvb:=lt_of_block hvb;have lg:=lt_of_block hg
 obtain ⟨W1,hr1,hg1,ho1⟩:=gX0 (P:=Tryz.prog) WN 154 154 3 169 w.heap.size (i*2) (l.length+1 - i) (G - i) ⟨vb,0,none⟩ 1 1 ROW 169 [.int .i64 x.slot,.int .i64 x.age] 1
  Tryz.underlying154 Tryz.sizeH hgN (by simp only [Nat.min_def];split <;> omega) rfl (World.news_of_block (cs:=#[.int .i64 x.slot,.int .i64 x.age]) (t:=169) (fr:=(0,0)) (aC0 hvb hbN lR7)) (by rw [hRs];simp only [List.length_cons,List.length_nil];omega) (by simp [Value.oneCell'])
 generalize hcur1:(ROW.toList.take (i*2)++[Value.int .i64 x.slot,Value.int .i64 x.age]++ROW.toList.drop (i*2 + [Value.int .i64 x.slot,Value.int .i64 x.age].length)).toArray=cur1 at hg1
 have hcz:cur1.size=G*2:=by
  rw [←hcur1];simp only [List.size_toArray,List.length_append,List.length_take,List.length_drop,hRZ,hA,hZl,List.length_cons,List.length_nil];omega
 have hgW:W1.heap[g]? = some (.cells cur 169 (0,0)):=aE0 (w:=WN) (b:=g) (aC0 hg hbN lR7) ho1 (fun e=>by have e':g=w.heap.size:=e;omega);have hg':W1.drew.heap[g]? = some (.cells cur 169 (0,0)):=hgW
 have hsrc:∀j u,(hV (l.drop i))[j]? = some u→W1.drew.cell? ((⟨g,i*2,none⟩:Addr).add j)=some u:=fun j u hj=>by
  rw [Addr.add_lit];refine aA0 hg' ?_;rw [←Array.getElem?_toList,hcut,nB0 i l,List.getElem?_append_right (by omega),hA,show i*2+j - i*2=j by omega];exact hj
 obtain ⟨W2,hr2,hg2,ho2⟩:=gX0 (P:=Tryz.prog) W1.drew 154 154 3 169 w.heap.size ((i+1)*2) (l.length+1 - (i+1)) (G - (i+1)) ⟨g,i*2,none⟩ (l.length - i) (l.length - i) cur1 169 (hV (l.drop i)) (l.length - i)
  Tryz.underlying154 Tryz.sizeH hg1 (by simp only [Nat.min_def];split <;> omega) hBl hsrc (by rw [hBl,hcz];omega) (mL1 _)
 have HFIN:Hid (lR0 w W2 (some g) (.slice (some ⟨w.heap.size,0,none⟩) (l.length+1) G) (dR0 i x l)):=by
  have hlen:=mO0 x (Nat.le_of_lt hi);refine ⟨w.heap.size,G,by rw [hlen],⟨by rw [eU0],Or.inr ⟨w.heap.size,G,_,by rw [hlen],Nat.zero_le _,hg2,by omega,hGm,?_,?_⟩⟩,?_,Or.inr lR7⟩
  ·simp [hcz,hBl];omega
  ·have hrow:=iV1 (A:=hV (l.take i)) (B:=hV (l.drop i)) (Z:=Z) (.int .i64 x.slot) (.int .i64 x.age);rw [←hRZ,hA,show i*2+2=(i+1)*2 by omega,show ROW.toList.take (i*2)++[Value.int .i64 x.slot,Value.int .i64 x.age]++ROW.toList.drop ((i+1)*2)=cur1.toList by rw [←hcur1];simp;omega] at hrow;dsimp only;rw [hrow,yS0,hlen,List.take_append,List.take_of_length_le (by omega),hA,show (l.length+1)*2 - i*2=(hV (l.drop i)).length+1+1 by omega,List.take_succ_cons,List.take_succ_cons,List.take_left]
  ·have o1:Out (fun k=>k=w.heap.size) WN W2:=ho1.trans ((Out.of_below (Below.refl W1.heap.size W1).drew lR7).trans ho2 (Went.refl _ _)) (Went.refl _ _);exact (Out.of_below hbN lR7).trans o1 (fun k hk=>Or.inr (by omega))
 clear hg1 hg2 ho1 ho2 hsrc hcut hA hBl hcur1 hcz hg hcs ht hg' hgW hgN hbN hRZ hZl hRs hkk hik;have q0:IntKind.i64.wrap ((i:Int)+1)=(i:Int)+1:=IntWalk.i64_in _ (by omega);have q1:(0:Int)≤(i:Int)+1:=by omega
 have q2:i≤l.length:=by omega
 have q3:((i:Int)+1).toNat=i+1:=by omega
 have q4:¬(G=i+1):=by omega
 have q5:(i:Int)≤(l.length:Int):=by omega
 have q6:¬(G=i):=by omega
 have q7:((i:Int) == (l.length:Int))=false:=beq_eq_false_iff_ne.2 (by omega);have q8:¬(l.length=i):=by omega
 go_enter Tryz.func150,Tryz.ntmps150
 go_wp2_with (first
  | (at_builtin;refine Lib.wpList_append_run _ rfl _ _ _ _ rfl _ _ rfl rfl _ _ hrz ?_)
  | (at_builtin;refine wpList_copy_runI _ rfl _ _ 154 154 rfl _ _ rfl rfl hr1 ?_))
 go_region_law (refine step_copy_runI rfl _ _ 154 154 rfl _ _ (by simp [Act.eval,Act.put]) (by simp [Act.eval,Act.put]) hr2 ?_);go_wp2;go_ret;exact ⟨_,rfl,HFIN.out⟩
theorem bA1 (vb i:Nat) (v:Value) (l:List Ly) (x:Ly) (w:World) (hr:w.ownsRow 0 169 2 v l.length (hV l)) (hl:l.length≤1000) (hi:i≤l.length)
  (hvb:w.heap[vb]? = some (.cells #[.int .i64 x.slot,.int .i64 x.age] 169 (0,0))) (hne:v.ownBlock≠some vb):
  Calls Tryz.prog 150 #[v,.int .i64 i,.slice (some ⟨vb,0,none⟩) 1 1] w fun e W'=>∃v',e=.returned v'∧lR0 w W' v.ownBlock v' (dR0 i x l):=by
 by_cases h1:i=l.length
 ·subst h1;rw [dF1];exact aZ1 vb v l x w hr hl hvb
 ·obtain ⟨g,cap,rfl,_,_⟩:=hr.form (by omega);have hg:vb≠g:=fun e=>hne (by rw [e];rfl)
  by_cases h2:l.length+1≤cap
  ·exact wE0 vb g cap i l x w hr hl (by omega) h2 hvb hg
  ·exact wF0 vb g cap i l x w hr hl (by omega) (by omega) hvb
end Go.Proofs.YtjdkagafdnchhaaGreatDoor
namespace Go.Proofs.YtjdkagafdnchhaaGreatDoor
open Go.RowKit
def inB (lo hi z:Int):Bool:=decide (lo≤z)&& decide (z≤hi)
def kE0 (lo hi:Int):List Int→Bool
 | []=>true
 | z::r=>inB lo hi z&& kE0 lo hi r
theorem dS0 {lo hi z:Int} (h:inB lo hi z=true):lo≤z∧z≤hi:=by
 unfold inB at h;simpa using h
theorem nZ0 {lo hi z:Int} (h:inB lo hi z=false):z<lo∨hi<z:=by
 unfold inB at h
 by_cases h1:lo≤z
 ·by_cases h2:z≤hi
  ·simp [h1,h2] at h
  ·exact Or.inr (by omega)
 ·exact Or.inl (by omega)
theorem oA0 {lo hi z:Int} (h:lo≤z∧z≤hi):inB lo hi z=true:=by unfold inB;simp [h.1,h.2]
theorem qX1 {lo hi z:Int} (h:z<lo∨hi<z):inB lo hi z=false:=by
 cases e:inB lo hi z with
 | false=>rfl
 | true=>have:=dS0 e;omega
theorem tI0 (lo hi z:Int):kE0 lo hi [z]=inB lo hi z:=by simp [kE0]
theorem bB1 (lo hi:Int) (zs:List Int) (k:Nat) (h:k<zs.length) (h1:lo≤zs[k]) (h2:zs[k]≤hi):kE0 lo hi (zs.drop (k+1))=kE0 lo hi (zs.drop k):=by
 rw [List.drop_eq_getElem_cons h];simp [kE0,inB,h1,h2]
theorem qG0 (lo hi:Int) (zs:List Int) (k:Nat) (h:k<zs.length) (h1:zs[k]<lo∨hi<zs[k]):kE0 lo hi (zs.drop k)=false:=by
 rw [List.drop_eq_getElem_cons h];simp only [kE0];rw [qX1 h1];rfl
theorem dG1 (lo hi:Int) (zs:List Int) (k:Nat) (h:¬k<zs.length):kE0 lo hi (zs.drop k)=true:=by
 rw [List.drop_eq_nil_of_le (by omega)];rfl
theorem nC0 {a b:Bool} (h:a=b):Ending.returned (.bool a)=.returned (.bool b):=by rw [h]
def cI0 (p q:Int):Bool:=inB 1 1000000 p&& inB 1 1000000 q
set_option maxHeartbeats 400000 in
theorem qH0 (lo hi:Int) (b:Nat) (zs:List Int) (w:World) (hbig:zs.length≤1000)
  (hc:∀j,j<zs.length→w.cell? ⟨b,j,none⟩=some (.int .i64 (zs.getD j 0))):
  Calls Tryz.prog 134 #[.int .i64 lo,.int .i64 hi,.slice (some ⟨b,0,none⟩) zs.length zs.length] w fun e w'=>e=.returned (.bool (kE0 lo hi zs))∧w'=w:=by
 go_enter Tryz.func134,Tryz.ntmps134;go_wp2;go_loop [8,11] (fun _ i=>∃k:Nat,k≤zs.length∧i=.int .i64 k∧kE0 lo hi (zs.drop k)=kE0 lo hi zs) (fun _ i=>zs.length - (intOf i).toNat)
 case atStart=>exact ⟨0,Nat.zero_le _,rfl,rfl⟩
 case round=>
  obtain ⟨k,hk,rfl,hq⟩:=hrel;have HQ:Hid (kE0 lo hi (zs.drop k)=kE0 lo hi zs):=hq;clear hq;have hcell:k<zs.length→w.cell? ⟨b,k,none⟩=some (.int .i64 (zs.getD k 0)):=fun h=>hc k h
  go_wp2
  ·go_ret;exact ⟨nC0 (by rw [←HQ.out];exact (qG0 lo hi zs k (by assumption) (by assumption)).symm),rfl⟩
  ·go_round
   case rel=>exact ⟨k+1,by omega,by go_num,by rw [←HQ.out];exact bB1 lo hi zs k (by assumption) (by omega) (by omega)⟩
   case measure=>simp [intOf];omega
  ·go_ret;exact ⟨nC0 (by rw [←HQ.out];exact (qG0 lo hi zs k (by assumption) (Or.inl (by assumption))).symm),rfl⟩
  ·go_ret;exact ⟨nC0 (by rw [←HQ.out];exact (dG1 lo hi zs k (by assumption)).symm),rfl⟩
set_option maxHeartbeats 400000 in
theorem bC1 (b:Nat) (zs:List Int) (w:World) (hbig:zs.length≤1000)
  (hc:∀j,j<zs.length→w.cell? ⟨b,j,none⟩=some (.int .i64 (zs.getD j 0))):
  Calls Tryz.prog 133 #[.slice (some ⟨b,0,none⟩) zs.length zs.length] w fun e w'=>e=.returned (.bool (kE0 1 1000000 zs))∧w'=w:=by
 go_enter Tryz.func133,Tryz.ntmps133;go_wp2_with fail;refine (qH0 _ _ _ zs _ hbig hc).mono ?_;rintro e w' ⟨rfl,rfl⟩;go_wp2;go_ret;exact ⟨rfl,rfl⟩
theorem lS0 (lo hi z:Int) (b:Nat) (w:World) (hc:w.cell? ⟨b,0,none⟩=some (.int .i64 z)):
  Calls Tryz.prog 134 #[.int .i64 lo,.int .i64 hi,.slice (some ⟨b,0,none⟩) 1 1] w fun e w'=>e=.returned (.bool (inB lo hi z))∧w'=w:=by
 rw [←tI0]
 exact qH0 lo hi b [z] w (by simp) (fun j hj=>by
  have:j=0:=by simp at hj;exact hj
  subst this;exact hc)
theorem hJ0 (z:Int) (b:Nat) (w:World) (hc:w.cell? ⟨b,0,none⟩=some (.int .i64 z)):
  Calls Tryz.prog 133 #[.slice (some ⟨b,0,none⟩) 1 1] w fun e w'=>e=.returned (.bool (inB 1 1000000 z))∧w'=w:=by
 rw [←tI0]
 exact bC1 b [z] w (by simp) (fun j hj=>by
  have:j=0:=by simp at hj;exact hj
  subst this;exact hc)
set_option maxHeartbeats 400000 in
theorem kK0 (p q:Int) (w:World):
  Calls Tryz.prog 91 #[.int .i64 p,.int .i64 q] w fun e w'=>e=.returned (.bool (cI0 p q))∧Below w.heap.size w w':=by
 cases hp:inB 1 1000000 p with
 | false=>
  have HR:Hid (cI0 p q=false):=by unfold cI0;rw [hp];rfl
  have HP:Hid (inB 1 1000000 p=false):=hp;clear hp;go_enter Tryz.func91,Tryz.ntmps91;go_wp2_with fail;refine (hJ0 p _ _ (by simp [go_sem])).mono ?_;rintro e w' ⟨rfl,rfl⟩;rw [HP.out];go_wp2_with fail;go_ret;exact ⟨by rw [HR.out];rfl,by go_grown⟩
 | true=>
  have HR:Hid (cI0 p q=inB 1 1000000 q):=by unfold cI0;rw [hp];rfl
  have HP:Hid (inB 1 1000000 p=true):=hp;clear hp;go_enter Tryz.func91,Tryz.ntmps91;go_wp2_with fail;refine (hJ0 p _ _ (by simp [go_sem])).mono ?_;rintro e w' ⟨rfl,rfl⟩;rw [HP.out];go_wp2_with fail;refine (lS0 1 1000000 q _ _ (by simp [go_sem])).mono ?_;rintro e w' ⟨rfl,rfl⟩;go_wp2_with fail;go_ret;exact ⟨by rw [HR.out];rfl,by go_grown⟩
end Go.Proofs.YtjdkagafdnchhaaGreatDoor
namespace Go.Proofs.YtjdkagafdnchhaaGreatDoor
open Go.RowKit
structure BkS where
 ab:Nat
 mb:Nat
 n:Nat
 vs:Value
 vf:Value
 v0:Value
 v1:Value
 rs:List Sot
 fr:List Nat
 S:Nat→List Ly
def BkAt (w:World) (bb:Nat) (b:BkS):Prop:=BookAt w bb b.ab b.mb b.n b.vs b.vf b.v0 b.v1 b.rs b.fr b.S
def BkS.foot (bb:Nat) (b:BkS):Nat→Prop:=pbB bb b.ab b.mb b.vs b.vf b.v0 b.v1
structure Bk (w:World) (bb m:Nat) (b:BkS):Prop where
 at_:BkAt w bb b
 ok:Pb m b.rs b.fr b.S
 small:b.n≤m
 steps:m≤900000
theorem Bk.below {w w':World} {bb m B:Nat} {b:BkS} (h:Bk w bb m b) (hb:Below B w w') (hB:w.heap.size≤B):Bk w' bb m b:=⟨BookAt.below h.at_ hb hB,h.ok,h.small,h.steps⟩
theorem Bk.out {T:Nat→Prop} {w w':World} {bb m:Nat} {b:BkS} (h:Bk w bb m b) (ho:Out T w w') (hT:∀k,b.foot bb k→¬T k):Bk w' bb m b:=⟨BookAt.out h.at_ ho hT,h.ok,h.small,h.steps⟩
theorem Bk.more {w:World} {bb m m':Nat} {b:BkS} (h:Bk w bb m b) (hm:m≤m') (hs:m'≤900000):Bk w bb m' b:=⟨h.at_,h.ok.more hm,Nat.le_trans h.small hm,hs⟩
theorem Bk.lt {w:World} {bb m:Nat} {b:BkS} (h:Bk w bb m b) {k:Nat} (hk:b.foot bb k):k<w.heap.size:=BookAt.lt h.at_ hk
def Goes (w w':World) (bb m:Nat) (b b':BkS):Prop:=Bk w' bb m b'∧Out (b.foot bb) w w'∧Went w (b.foot bb) (b'.foot bb)
theorem Goes.stay {w w':World} {bb m m':Nat} {b:BkS} (h:Bk w bb m b) (hb:Below w.heap.size w w') (hm:m≤m') (hs:m'≤900000):Goes w w' bb m' b b:=⟨(h.below hb lR7).more hm hs,Out.of_below hb lR7,Went.refl _ _⟩
def BkS.none_ (k:Nat):BkS:=⟨k,k+1,0,.slice none 0 0,.slice none 0 0,.slice none 0 0,.slice none 0 0,[],[],fun _=>[]⟩
set_option maxHeartbeats 1000000 in
theorem qY1 (w:World):Calls Tryz.prog 36 #[] w fun e W'=>e=.returned (.pointer (some ⟨w.heap.size+2,0,none⟩))∧Bk W' (w.heap.size+2) 0 (BkS.none_ w.heap.size)∧Below w.heap.size w W':=by
 have hmm:=@run_makeMap Tryz.prog;go_enter Tryz.func36,Tryz.ntmps36;go_wp2_with fail;refine (tC1 _).mono ?_;rintro e w1 ⟨rfl,rfl⟩;go_wp2;go_ret;have h1:=iQ1 w 100;have hb1:=bel1 w (.cells #[.int .i64 100,.slice none 0 0,.slice none 0 0] 221);have hs1:(w.alloc (.cells #[.int .i64 100,.slice none 0 0,.slice none 0 0] 221)).heap.size=w.heap.size+1:=by simp
 generalize w.alloc (.cells #[.int .i64 100,.slice none 0 0,.slice none 0 0] 221)=w1 at h1 hb1 hs1 ⊢
 have hm:fD0 (w1.alloc (.map #[] 0)) (w.heap.size+1) 0 (fun _=>[]):=by
  have:=World.ownsMap_made (H:=Unit) w1 Tryz.prog 3 plR;rw [hs1] at this;exact ⟨_,this,(fun _ _ x hx=>(by cases hx)),fun _ _=>rfl⟩
 have hb2:=bel1 w1 (.map #[] 0);have hs2:(w1.alloc (.map #[] 0)).heap.size=w.heap.size+2:=by simp;omega
 have h2:=h1.below hb2 lR7;generalize w1.alloc (.map #[] 0)=w2 at hm hb2 hs2 h2 ⊢;have hx:=heap_alloc_new w2 (.cells #[.pointer (some ⟨w.heap.size,0,none⟩),.map (some (w.heap.size+1)),.slice none 0 0,.slice none 0 0] 157);have hb3:=bel1 w2 (.cells #[.pointer (some ⟨w.heap.size,0,none⟩),.map (some (w.heap.size+1)),.slice none 0 0,.slice none 0 0] 157);refine ⟨by rw [←hs2];rfl,?_,?_⟩
 ·refine ⟨⟨by rw [hs2] at hx;exact hx,h2.below hb3 lR7,hm.same (hb3.block _ hm.lt),World.ownsRow_nil _ _ _ _,World.ownsRow_nil _ _ _ _,fun k hk=>by cases hk⟩,Pb.start 0,lR7,by decide⟩
 ·exact aD0 (aD0 hb1 hb2) hb3
theorem wG0 (w:World) {k:Nat} (h:(BkS.none_ w.heap.size).foot (w.heap.size+2) k):w.heap.size≤k:=by
 rcases h with rfl | (rfl | h | h) | rfl | h | h
 ·omega
 ·exact lR7
 ·cases h
 ·cases h
 ·exact Nat.le_succ _
 ·cases h
 ·cases h
set_option maxHeartbeats 1000000 in
theorem qZ1 (bb m:Nat) (b:BkS) (w:World) (h:Bk w bb m b):Calls Tryz.prog 93 #[.pointer (some ⟨bb,0,none⟩)] w fun e W'=>e=.returned (.int .i64 ((b.S 0).length+(b.S 1).length:Nat))∧Below w.heap.size w W':=by
 have hc:w.cell? ⟨bb,0,none⟩=some (.pointer (some ⟨b.ab,0,none⟩)):=aA0 (j:=0) h.at_.box rfl;have H:Hid (Bk w bb m b):=h;clear h;go_enter Tryz.func93,Tryz.ntmps93;go_wp2_with fail;refine (cZ1 b.ab 100 b.vs b.vf b.rs b.fr _ _ H.out.at_.ar (by have:=H.out.ok.so.small;have:=H.out.steps;omega) rfl H.out.ok.so.cnt).mono ?_;rintro e w1 ⟨rfl,n,rfl⟩;go_wp2;go_ret;exact ⟨by rw [←H.out.ok.cnt];rfl,below_drewN (Below.refl _ _) n⟩
structure BookG (w:World) (bb ab mb n:Nat) (vs vf v0 v1:Value) (rs:List Sot) (fr:List Nat) (Sm Sr:Nat→List Ly):Prop where
 box:w.heap[bb]? = some (.cells #[.pointer (some ⟨ab,0,none⟩),.map (some mb),v0,v1] 157 (0,0))
 ar:ArOr w ab 100 vs vf rs fr
 map:fD0 w mb n Sm
 row0:w.ownsRow 0 169 2 v0 (Sr 0).length (hV (Sr 0))
 row1:w.ownsRow 0 169 2 v1 (Sr 1).length (hV (Sr 1))
 apart:∀k,v0.ownBlock=some k→v1.ownBlock≠some k
section
variable {w w' w1:World} {bb ab mb n s g cap:Nat} {vs vf v0 v1:Value} {rs:List Sot} {fr:List Nat} {S Sm Sr:Nat→List Ly}
theorem BookAt.mid (h:BookAt w bb ab mb n vs vf v0 v1 rs fr S):BookG w bb ab mb n vs vf v0 v1 rs fr S S:=⟨h.box,h.ar,h.map,h.row0,h.row1,h.apart⟩
theorem BookG.done (h:BookG w bb ab mb n vs vf v0 v1 rs fr S S):BookAt w bb ab mb n vs vf v0 v1 rs fr S:=⟨h.box,h.ar,h.map,h.row0,h.row1,h.apart⟩
theorem BookG.out {T:Nat→Prop} (h:BookG w bb ab mb n vs vf v0 v1 rs fr Sm Sr) (ho:Out T w w') (hT:∀k,pbB bb ab mb vs vf v0 v1 k→¬T k):BookG w' bb ab mb n vs vf v0 v1 rs fr Sm Sr:=
 ⟨aE0 h.box ho (hT bb (Or.inl rfl)),h.ar.out ho (fun k hk=>hT k (Or.inr (Or.inl hk))),h.map.same (ho.block mb h.map.lt (hT mb (Or.inr (Or.inr (Or.inl rfl))))),
  aI0 h.row0 ho (fun k hk=>hT k (Or.inr (Or.inr (Or.inr (Or.inl hk))))),aI0 h.row1 ho (fun k hk=>hT k (Or.inr (Or.inr (Or.inr (Or.inr hk))))),h.apart⟩
theorem BookG.rowIs (h:BookG w bb ab mb n vs vf v0 v1 rs fr Sm Sr) (hs:s<2):w.ownsRow 0 169 2 (vAt v0 v1 s) (Sr s).length (hV (Sr s))∧w.cell? ⟨bb,2+s,none⟩=some (vAt v0 v1 s)∧w.frozen? ⟨bb,2+s,none⟩=false:=by
 match s,hs with
 | 0,_=>exact ⟨h.row0,aA0 (j:=2) h.box rfl,aB0 h.box⟩
 | 1,_=>exact ⟨h.row1,aA0 (j:=3) h.box rfl,aB0 h.box⟩
theorem BookG.rowNotBox (h:BookG w bb ab mb n vs vf v0 v1 rs fr Sm Sr) (hs:s<2):(vAt v0 v1 s).ownBlock≠some bb:=aG0 (h.rowIs hs).1 h.box (by decide)
theorem BookG.rowNotMap (h:BookG w bb ab mb n vs vf v0 v1 rs fr Sm Sr) (hs:s<2):(vAt v0 v1 s).ownBlock≠some mb:=cS0 (h.rowIs hs).1 h.map
theorem BookG.rowNotAr (h:BookG w bb ab mb n vs vf v0 v1 rs fr Sm Sr) (hs:s<2) {k:Nat} (hk:(vAt v0 v1 s).ownBlock=some k):¬aoB ab vs vf k:=fun e=>by
 rcases e with e | e | e
 ·exact aG0 (h.rowIs hs).1 (e ▸ h.ar.box) (by decide) hk
 ·exact bG0 (h.rowIs hs).1 h.ar.slots (by decide) hk e
 ·exact bG0 (h.rowIs hs).1 h.ar.free (by decide) hk e
theorem BookG.newMap {n':Nat} {Sm':Nat→List Ly} (h:BookG w bb ab mb n vs vf v0 v1 rs fr Sm Sr) (ho:Out (fun j=>j=mb) w w') (hm:fD0 w' mb n' Sm'):BookG w' bb ab mb n' vs vf v0 v1 rs fr Sm' Sr:=
 ⟨aE0 h.box ho (h.map.ne h.box),h.ar.out ho (fun k hk e=>by
   have e':k=mb:=e;subst e';rcases hk with e | e | e
   ·exact h.map.ne h.ar.box e.symm
   ·exact cS0 h.ar.slots h.map e
   ·exact cS0 h.ar.free h.map e),hm,aI0 h.row0 ho (fun k hk e=>cS0 h.row0 h.map (by rw [←show k=mb from e];exact hk)),aI0 h.row1 ho (fun k hk e=>cS0 h.row1 h.map (by rw [←show k=mb from e];exact hk)),h.apart⟩
theorem BookG.newAr {vs' vf':Value} {rs':List Sot} {fr':List Nat} (h:BookG w bb ab mb n vs vf v0 v1 rs fr Sm Sr) (ho:Out (aoB ab vs vf) w w') (ha:ArOr w' ab 100 vs' vf' rs' fr'):BookG w' bb ab mb n vs' vf' v0 v1 rs' fr' Sm Sr:=
 ⟨aE0 h.box ho (fun e=>by
   rcases e with e | e | e
   ·exact cV0 h.box h.ar.box (by decide) e
   ·exact aG0 h.ar.slots h.box (by decide) e
   ·exact aG0 h.ar.free h.box (by decide) e),ha,h.map.same (ho.block mb h.map.lt (fun e=>by
   rcases e with e | e | e
   ·exact h.map.ne h.ar.box e.symm
   ·exact cS0 h.ar.slots h.map e
   ·exact cS0 h.ar.free h.map e)),aI0 h.row0 ho (fun _ hk=>h.rowNotAr (s:=0) (by decide) hk),aI0 h.row1 ho (fun _ hk=>h.rowNotAr (s:=1) (by decide) hk),h.apart⟩
def rowV (v v':Value) (s t:Nat):Value:=if s=t then v' else v
theorem BookG.newRow {l':List Ly} (h:BookG w bb ab mb n vs vf v0 v1 rs fr Sm Sr) (hs:s<2) (hr:w1.ownsRow 0 169 2 (.slice (some ⟨g,0,none⟩) l'.length cap) l'.length (hV l'))
  (ho:Out (fun k=>(vAt v0 v1 s).ownBlock=some k) w w1) (hg:(vAt v0 v1 s).ownBlock=some g∨w.heap.size≤g):
  BookG (w1.setCell ⟨bb,2+s,none⟩ (.slice (some ⟨g,0,none⟩) l'.length cap)) bb ab mb n vs vf (rowV v0 (.slice (some ⟨g,0,none⟩) l'.length cap) s 0) (rowV v1 (.slice (some ⟨g,0,none⟩) l'.length cap) s 1) rs fr Sm (upS Sr s l')
  ∧Out (fun k=>k=bb∨(vAt v0 v1 s).ownBlock=some k) w (w1.setCell ⟨bb,2+s,none⟩ (.slice (some ⟨g,0,none⟩) l'.length cap)):=by
 have hbx:=aE0 h.box ho (h.rowNotBox hs);have o2:=aQ0 w1 ⟨bb,2+s,none⟩ (.slice (some ⟨g,0,none⟩) l'.length cap);have har:=h.ar.out ho (fun k hk e=>h.rowNotAr hs e hk);have hma:=h.map.same (ho.block mb h.map.lt (h.rowNotMap hs))
 have har2:=har.out o2 (fun k hk e=>by
  have e':k=bb:=e;subst e';rcases hk with e | e | e
  ·exact cV0 hbx har.box (by decide) e
  ·exact aG0 har.slots hbx (by decide) e
  ·exact aG0 har.free hbx (by decide) e)
 have hma2:=hma.same (o2.block mb hma.lt (fun e=>hma.ne hbx (show mb=bb from e).symm));have hr2:(w1.setCell ⟨bb,2+s,none⟩ (.slice (some ⟨g,0,none⟩) l'.length cap)).ownsRow 0 169 2 (.slice (some ⟨g,0,none⟩) l'.length cap) l'.length (hV l'):=aI0 hr o2 (fun k hk e=>aG0 hr hbx (by decide) (by rw [←show k=bb from e];exact hk));refine ⟨?_,(ho.mono (fun k hk=>Or.inr hk)).trans (o2.mono (fun k hk=>Or.inl hk)) (Went.refl _ _)⟩
 match s,hs with
 | 0,_=>
  have q1:w1.ownsRow 0 169 2 v1 (Sr 1).length (hV (Sr 1)):=aI0 h.row1 ho (fun k hk e=>h.apart k e hk);have q2:=aI0 q1 o2 (fun k hk e=>aG0 q1 hbx (by decide) (by rw [←show k=bb from e];exact hk));refine ⟨aK0 (j:=2) _ hbx,har2,hma2,hr2,q2,fun k hk=>?_⟩;have e':g=k:=by simpa [rowV,Value.ownBlock] using hk
  subst e';rcases hg with hg | hg
  ·exact h.apart _ hg
  ·exact fun e=>by have:=(h.row1.lt _ e).2;omega
 | 1,_=>
  have q1:w1.ownsRow 0 169 2 v0 (Sr 0).length (hV (Sr 0)):=aI0 h.row0 ho (fun k hk e=>h.apart k hk e);have q2:=aI0 q1 o2 (fun k hk e=>aG0 q1 hbx (by decide) (by rw [←show k=bb from e];exact hk));refine ⟨aK0 (j:=3) _ hbx,har2,hma2,q2,hr2,fun k hk=>?_⟩;intro hk';have e':g=k:=by simpa [rowV,Value.ownBlock] using hk'
  subst e';rcases hg with hg | hg
  ·exact h.apart _ hk hg
  ·have:=(h.row0.lt _ hk).2;omega
theorem tJ0 {v':Value} (hs:s<2) (hg:∀k,v'.ownBlock=some k→(vAt v0 v1 s).ownBlock=some k∨w.heap.size≤k):Went w (fun k=>v0.ownBlock=some k∨v1.ownBlock=some k) (fun k=>(rowV v0 v' s 0).ownBlock=some k∨(rowV v1 v' s 1).ownBlock=some k):=by
 match s,hs with
 | 0,_=>
  rintro k (hk | hk)
  ·exact (hg k hk).imp Or.inl id
  ·exact Or.inl (Or.inr hk)
 | 1,_=>
  rintro k (hk | hk)
  ·exact Or.inl (Or.inl hk)
  ·exact (hg k hk).imp Or.inr id
theorem wH0 (hs:s<2) {k:Nat} (h:(vAt v0 v1 s).ownBlock=some k):v0.ownBlock=some k∨v1.ownBlock=some k:=by
 match s,hs with
 | 0,_=>exact Or.inl h
 | 1,_=>exact Or.inr h
end
theorem kL0 {w:World} {bb s:Nat} {a m v0 v1:Value} {t:TypeId} (h:w.heap[bb]? = some (.cells #[a,m,v0,v1] t (0,0))) (hs:s<2):w.cell? ⟨bb,2+s,none⟩=some (vAt v0 v1 s)∧w.frozen? ⟨bb,2+s,none⟩=false:=by
 match s,hs with
 | 0,_=>exact ⟨aA0 (j:=2) h rfl,aB0 h⟩
 | 1,_=>exact ⟨aA0 (j:=3) h rfl,aB0 h⟩
theorem dH1 (bb ab mb nn s:Nat) (vs vf v0 v1:Value) (rs:List Sot) (fr:List Nat) (S:Nat→List Ly) (o:Ord) (we W:World) (hs:s<2) (hlen:(S s).length≤1000)
  (hth:∀x∈S s,soAt rs x.slot=(some x.o,x.age)) (hB:BookAt we bb ab mb nn vs vf v0 v1 rs fr S) (hb:Below we.heap.size we W):
  Calls Tryz.prog 151 #[.pointer (some ⟨bb,0,none⟩),.int .i64 s,o.agg] W fun e w1=>e=.returned (.int .i64 (fV0 o ((S s).map Ly.o)))∧Below W.heap.size W w1∧Below we.heap.size we w1∧w1.cell? ⟨bb,2+s,none⟩=some (vAt v0 v1 s)∧bb<w1.heap.size:=
 (iT1 bb ab mb nn s vs vf v0 v1 rs fr S o hs hlen hth W (hB.below hb lR7)).mono fun _ _ ⟨h1,h2⟩=>
  have h3:=aD0 hb h2
  ⟨h1,h2,h3,(kL0 (hB.below h3 lR7).box hs).1,lt_of_block (hB.below h3 lR7).box⟩
theorem tK0 (vb i bb ab mb nn s:Nat) (vs vf v0 v1:Value) (rs:List Sot) (fr:List Nat) (S:Nat→List Ly) (x:Ly) (we W:World) (hs:s<2) (hlen:(S s).length≤1000) (hi:i≤(S s).length)
  (hB:BookAt we bb ab mb nn vs vf v0 v1 rs fr S) (hb:Below we.heap.size we W) (hvb:W.heap[vb]? = some (.cells #[.int .i64 x.slot,.int .i64 x.age] 169 (0,0))) (hvl:we.heap.size≤vb):
  Calls Tryz.prog 150 #[vAt v0 v1 s,.int .i64 i,.slice (some ⟨vb,0,none⟩) 1 1] W fun e w1=>∃g cap,e=.returned (.slice (some ⟨g,0,none⟩) (dR0 i x (S s)).length cap)
   ∧w1.ownsRow 0 169 2 (.slice (some ⟨g,0,none⟩) (dR0 i x (S s)).length cap) (dR0 i x (S s)).length (hV (dR0 i x (S s)))∧Out (fun k=>(vAt v0 v1 s).ownBlock=some k) we w1∧((vAt v0 v1 s).ownBlock=some g∨we.heap.size≤g)
   ∧Out (fun k=>k=bb∨(vAt v0 v1 s).ownBlock=some k) we w1∧w1.cell? ⟨bb,2+s,none⟩=some (vAt v0 v1 s)∧w1.frozen? ⟨bb,2+s,none⟩=false:=by
 have hrow:=(hB.mid.rowIs hs).1;refine (bA1 vb i (vAt v0 v1 s) (S s) x W (aO0 hrow hb lR7) hlen hi hvb (fun e=>by have:=(hrow.lt _ e).2;omega)).mono ?_;rintro e w1 ⟨v',rfl,g,cap,rfl,h1,h2,h3⟩;have h4:Out (fun k=>(vAt v0 v1 s).ownBlock=some k) we w1:=(Out.of_below hb lR7).trans h2 (Went.refl _ _);obtain ⟨h5,h6⟩:=kL0 (aE0 hB.box h4 (hB.mid.rowNotBox hs)) hs;exact ⟨g,cap,rfl,h1,h4,h3.imp id (fun h=>Nat.le_trans hb.size h),h4.mono (fun k hk=>Or.inr hk),h5,h6⟩
section
variable {P:Program} {ops:Array Oper} {Q:Exit→Act→World→Prop} {md:Region.Mode} {S:World→Prop} {L:Nat→Bool}
def gL0 (P:Program) (md:Region.Mode) (ops:Array Oper) (Q:Exit→Act→World→Prop) (S:World→Prop) (L:Nat→Bool):Nat→Array Bool→Act→World→Prop
 | 0,listed,a,w=>Region.ready md ops listed=[]∧Q .normal a w
 | fuel+1,listed,a,w=>(Region.ready md ops listed=[]→Q .normal a w)∧∀i∈Region.ready md ops listed,wpOp P ops Q i (fun a' w'=>(L i=false→S w')∧gL0 P md ops Q S L fuel (listed.setIfInBounds i true) a' w') a w
theorem kM0:∀(fuel:Nat) (listed:Array Bool) (a:Act) (w:World),gL0 P md ops Q S L fuel listed a w→wpAny P md ops Q fuel listed a w
 | 0,_,_,_,h=>h
 | fuel+1,_,_,_,h=>⟨h.1,fun i hi=>wpOp_mono (fun a' w' h'=>kM0 fuel _ a' w' h'.2) (h.2 i hi)⟩
def qI0 (md:Region.Mode) (ops:Array Oper):Nat→Nat→Nat→Bool
 | 0,_,_=>false
 | n+1,j,i=>match ops[j]? with
  | some o=>o.after.any fun e=>Region.binds md e&& (e.on == i || qI0 md ops n e.on i)
  | none=>false
theorem qJ0 {n j i:Nat} (h:qI0 md ops (n+1) j i=true):∃oj,ops[j]? = some oj∧∃e∈oj.after,Region.binds md e=true∧(e.on=i∨qI0 md ops n e.on i=true):=by
 unfold qI0 at h;cases hj:ops[j]? with
 | none=>rw [hj] at h;cases h
 | some oj=>
  rw [hj] at h;obtain ⟨e,he,h1⟩:=Array.any_eq_true'.1 h;simp only [Bool.and_eq_true,Bool.or_eq_true,beq_iff_eq] at h1;exact ⟨oj,rfl,e,he,h1⟩
def Down (md:Region.Mode) (ops:Array Oper) (listed:Array Bool):Prop:=∀(j:Nat) (oj:Oper),ops[j]? = some oj→listed.getD j false=true→∀e∈oj.after,Region.binds md e=true→listed.getD e.on false=true
theorem Down.more {listed:Array Bool} {j:Nat} (h:Down md ops listed) (hj:j∈Region.ready md ops listed):Down md ops (listed.setIfInBounds j true):=by
 obtain ⟨_,oj,hoj,hall⟩:=mem_ready.1 hj;intro k ok hk hl e he hb;apply getD_set_true
 by_cases hkj:j=k
 ·subst hkj;rw [hoj] at hk;injection hk with hk;subst hk;exact hall e he hb
 ·rw [getD_set_ne false hkj] at hl;exact h k ok hk hl e he hb
theorem yU0 {listed:Array Bool} {i:Nat} (hd:Down md ops listed) (hi:listed.getD i false=false):∀(n j:Nat),qI0 md ops n j i=true→listed.getD j false=false
 | 0,_,h=>by cases h
 | n+1,j,h=>by
  obtain ⟨oj,hoj,e,he,hb,h1⟩:=qJ0 h;cases hc:listed.getD j false with
  | false=>rfl
  | true=>
   have h2:=hd j oj hoj hc e he hb;rcases h1 with h1 | h1
   ·rw [h1,hi] at h2;cases h2
   ·rw [yU0 hd hi n _ h1] at h2;cases h2
def bD1 (md:Region.Mode) (ops:Array Oper) (L:Nat→Bool) (i:Nat):Bool:=(List.range ops.size).all fun j=>!L j || qI0 md ops 4 j i
theorem yV0 {listed:Array Bool} {i j:Nat} (h:bD1 md ops L i=true) (hd:Down md ops listed) (hi:listed.getD i false=false) (hj:j∈Region.ready md ops listed):L j=false:=by
 obtain ⟨_,oj,hoj,hall⟩:=mem_ready.1 hj;have hlt:=(Array.getElem?_eq_some_iff.1 hoj).1;have h0:=List.all_eq_true.1 h j (List.mem_range.2 hlt);cases hL:L j with
 | false=>rfl
 | true=>
  rw [hL] at h0;obtain ⟨oj',hoj',e,he,hb,h1⟩:=qJ0 (n:=3) (by simpa using h0);rw [hoj] at hoj';injection hoj' with hoj';subst hoj';have h2:=hall e he hb;rcases h1 with h1 | h1
  ·rw [h1,hi] at h2;cases h2
  ·rw [yU0 hd hi 3 _ h1] at h2;cases h2
def wI0 (md:Region.Mode) (ops:Array Oper) (listed:Array Bool):Bool:=(List.range ops.size).all fun j=>!listed.getD j false || (match ops[j]? with | some o=>o.after.all fun e=>!Region.binds md e || listed.getD e.on false | none=>true)
theorem oB0 {listed:Array Bool} (h:wI0 md ops listed=true):Down md ops listed:=fun j oj hoj hl e he hb=>by
 have hlt:=(Array.getElem?_eq_some_iff.1 hoj).1;have h0:=List.all_eq_true.1 h j (List.mem_range.2 hlt);simp only [hl,hoj,Bool.not_true,Bool.false_or] at h0;have h1:=Array.all_eq_true'.1 h0 e he
 simpa [hb] using h1
theorem tL0 {i:Nat} {oi:Oper} {v:Value} (hi:ops[i]? = some oi) (hsel:∀(j:Nat) (o:Oper) cs b,ops[j]? = some o→o.op≠.select cs b) (hQ:∀c a w,Q (.panic c) (a.put oi.dst v) w→Q (.panic c) a w) (hl:bD1 md ops L i=true):
  ∀(fuel:Nat) (listed:Array Bool) (a:Act) (w:World),
   (∀j oj,ops[j]? = some oj→j≠i→listed.getD j true=false→(∀e∈oj.after,Region.binds md e=true→e.on≠i)→oi.apart ops oj=true)→Down md ops listed→
   i∈Region.ready md ops listed→YieldsIf P ops S oi v a→S w→gL0 P md ops Q S L fuel (listed.setIfInBounds i true) (a.put oi.dst v) w→gL0 P md ops Q S L (fuel+1) listed a w:=by
 intro fuel
 induction fuel with
 | zero=>
  intro listed a w _ _ hr hy hS H;refine ⟨fun h=>(by rw [h] at hr;cases hr),fun j hj=>?_⟩
  by_cases hji:j=i
  ·subst hji;exact hy.wpOp hi hS ⟨fun _=>hS,H⟩
  ·have:=ready_mono hj hji;rw [H.1] at this;cases this
 | succ fuel ih=>
  intro listed a w hfree hd hr hy hS H;refine ⟨fun h=>(by rw [h] at hr;cases hr),fun j hj=>?_⟩
  by_cases hji:j=i
  ·subst hji;exact hy.wpOp hi hS ⟨fun _=>hS,H⟩
  obtain ⟨hjun,oj,hoj,hall⟩:=mem_ready.1 hj;have hun:listed.getD i true=false:=(mem_ready.1 hr).1
  have hnot:∀e∈oj.after,Region.binds md e=true→e.on≠i:=fun e he hb heq=>by
   have h1:=hall e he hb;rw [heq] at h1;rcases Nat.lt_or_ge i listed.size with h' | h'
   ·simp [h'] at hun h1;rw [hun] at h1;cases h1
   ·simp [Array.getElem?_eq_none h'] at h1
  have hLj:L j=false:=yV0 hl hd (by
   rcases Nat.lt_or_ge i listed.size with h' | h'
   ·simpa [h'] using hun
   ·simp [Array.getElem?_eq_none h']) hj
  have h2:=wpOp_putIf hoj (hfree j oj hoj hji hjun hnot) (fun cs b=>hsel i oi cs b hi) (fun cs b=>hsel j oj cs b hoj) hQ hy (H.2 j (ready_mono hj hji))
  refine wpOp_mono (fun a' w' h3=>⟨fun _=>h3.2.1 hLj,ih (listed.setIfInBounds j true) a' w' (fun k ok hk hki hku hno=>hfree k ok hk hki (by
   by_cases hjk:j=k
   ·subst hjk;exact hjun
   ·rw [getD_set_ne true hjk] at hku;exact hku) hno) (hd.more hj) (ready_mono hr (Ne.symm hji)) h3.1 (h3.2.1 hLj) ?_⟩) h2
  rw [Array.setIfInBounds_comm _ _ hji];exact h3.2.2
theorem wJ0 {i:Nat} {oi:Oper} {v:Value} {fuel:Nat} {listed:Array Bool} {a:Act} {w:World} (hi:ops[i]? = some oi) (hs:Region.noSelect ops=true) (hf:Region.free md ops listed i=true) (hr:(Region.ready md ops listed).contains i=true) (hl:bD1 md ops L i=true) (hd:wI0 md ops listed=true)
  (hQ:∀c a w,Q (.panic c) (a.put oi.dst v) w→Q (.panic c) a w) (hw:Region.wanted oi (yielded ops a.tmps)=true) (hy:∀w,S w→(execOp a.eval oi).run P w=.ok (.value v) w) (hS:S w)
  (h:gL0 P md ops Q S L fuel (listed.setIfInBounds i true) (a.put oi.dst v) w):gL0 P md ops Q S L (fuel+1) listed a w:=
 tL0 hi (Region.noSelect_spec hs) hQ hl fuel listed a w (Region.free_spec hi hf) (oB0 hd) (by simpa using hr) (Or.inl ⟨hw,hy⟩) hS h
theorem tkL7 {i:Nat} {oi:Oper} {v:Value} {fuel:Nat} {listed:Array Bool} {a:Act} {w:World} (hi:ops[i]? = some oi) (hk:(Region.noSelect ops&& Region.free md ops listed i&& (Region.ready md ops listed).contains i&& bD1 md ops L i&& wI0 md ops listed)=true)
  (hQ:∀c a w,Q (.panic c) (a.put oi.dst v) w→Q (.panic c) a w) (hw:Region.wanted oi (yielded ops a.tmps)=true) (hy:∀w,S w→(execOp a.eval oi).run P w=.ok (.value v) w) (hS:S w)
  (h:gL0 P md ops Q S L fuel (listed.setIfInBounds i true) (a.put oi.dst v) w):gL0 P md ops Q S L (fuel+1) listed a w:=by
 simp only [Bool.and_eq_true] at hk;exact wJ0 hi hk.1.1.1.1 hk.1.1.1.2 hk.1.1.2 hk.1.2 hk.2 hQ hw hy hS h
def aF0 (P:Program) (md:Region.Mode) (ops:Array Oper) (Q:Exit→Act→World→Prop) (S:World→Prop) (L:Nat→Bool) (fuel:Nat) (listed:Array Bool) (a:Act) (w:World) (rs:List Nat):Prop:=
 ∀i∈rs,wpOp P ops Q i (fun a' w'=>(L i=false→S w')∧gL0 P md ops Q S L fuel (listed.setIfInBounds i true) a' w') a w
theorem aF0.nil {fuel:Nat} {listed:Array Bool} {a:Act} {w:World}:aF0 P md ops Q S L fuel listed a w []:=fun _ h=>by cases h
theorem aF0.cons {fuel:Nat} {listed:Array Bool} {a:Act} {w:World} {i:Nat} {o:Oper} {rs:List Nat} (ho:ops[i]? = some o)
  (h:∀K':Act→World→Prop,Shut (∀a w,(L i=false→S w)→((L i=false→S w)→gL0 P md ops Q S L fuel (listed.setIfInBounds i true) a w)→K' a w)→if Region.wanted o (yielded ops a.tmps)=true then Oper.wp P o a w K' Q else K' (a.put o.dst undef) w)
  (hs:aF0 P md ops Q S L fuel listed a w rs):aF0 P md ops Q S L fuel listed a w (i::rs):=fun j hj=>by
 rcases List.mem_cons.1 hj with rfl | hj
 ·exact wpOp_step ho (fun K' hK=>h K' (fun a w hS hW=>hK a w ⟨hS,hW hS⟩))
 ·exact hs j hj
theorem aL0 {rs:List Nat} {fuel:Nat} {listed:Array Bool} {a:Act} {w:World} (hr:Region.ready md ops listed=rs) (hne:rs≠[]) (h:aF0 P md ops Q S L fuel listed a w rs):gL0 P md ops Q S L (fuel+1) listed a w:=
 ⟨fun h0=>absurd (hr ▸ h0) hne,hr ▸ h⟩
theorem fF0 {listed:Array Bool} {a:Act} {w:World} (hr:Region.ready md ops listed=[]) (h:Q .normal a w):∀fuel,gL0 P md ops Q S L fuel listed a w
 | 0=>⟨hr,h⟩
 | _+1=>⟨fun _=>h,by rw [hr];simp⟩
theorem eC0 {id:Nat} {a:Act} {w:World} (S:World→Prop) (L:Nat→Bool) (hm:P.follows .mixedOrders=true) (hS:S w.drew) (h:S w.drew→gL0 P .any ops Q S L ops.size (Array.replicate ops.size false) a w.drew):(Code.region id ops true).wp P Q a w:=
 wp_region_any hm (kM0 _ _ _ _ (h hS))
end
end Go.Proofs.YtjdkagafdnchhaaGreatDoor
