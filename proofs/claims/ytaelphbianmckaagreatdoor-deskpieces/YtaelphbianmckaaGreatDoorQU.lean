/- DeskPieces: a part of the proof, packed (the readable form: the templates). -/
import Derived.Test.YtaelphbianmckaaGreatDoorQA
import Derived.Test.YtaelphbianmckaaGreatDoorQT
import Derived.RangeFuncNested
import Derived.RangeFuncBound
import Derived.RangeFuncCalls
import Derived.RangeFuncLeaves
import Derived.Shelf.Abstract
import Derived.Shelf.RegionOpen
import Derived.OwnWalkIn
import Derived.TacticsInMore
import Derived.LoopNIn
import Derived.LoopIn
import Derived.Test.YtaelphbianmckaaGreatDoorQK
import Derived.LaidLaws
import Derived.LaidHandle
import Derived.Lib.LaidTab
namespace Go.Proofs.YtaelphbianmckaaGreatDoor
open Go.RowKit Go.Shelf
theorem sP1 (s:ByteArray) (w:World) (hs:s.size≤1000000):
  Calls Tryz.prog 38 #[.string s,.string ⟨#[10]⟩] w fun e w'=>e=.returned (.string (baOf (lO0 s.data.toList)))∧w'=w:=
 Any.strings_TrimSuffix zN0 s ⟨#[10]⟩ w (by omega)
theorem hO1 (d:Array UInt8) (a b:Nat):(d.extract a b).toList=(d.toList.drop a).take (b - a):=by
 rw [Array.toList_extract,List.extract_eq_take_drop]
theorem hQ1 (s:ByteArray) (i:Nat):s.extract 0 i=baOf (s.data.toList.take i):=by
 apply ByteArray.ext;rw [ByteArray.data_extract];apply Array.ext';rw [hO1];rfl
theorem pZ1 (s:ByteArray) (i:Nat):s.extract i s.size=baOf (s.data.toList.drop i):=by
 apply ByteArray.ext;rw [ByteArray.data_extract];apply Array.ext';rw [hO1,List.take_of_length_le]
 ·rfl
 ·rw [List.length_drop,Array.length_toList];exact lR7
theorem hR1 (s:ByteArray) (w:World):Calls Tryz.prog 138 #[.string s,.string ⟨#[10]⟩] w fun e w'=>e=.returned (.int .i64 (Lib.indexByte s.data.toList 10))∧w'=w:=
 Any.stringslite_Index_one (ρ:=ds_lays143_ren) { zM0 with } s 10 w
set_option maxHeartbeats 1000000 in
set_option maxRecDepth 8000 in
theorem hT1 (s:ByteArray) (w:World) (hs:s.size≤1000000):
  Calls Tryz.prog 83 #[.string s,.string ⟨#[10]⟩] w fun e w'=>e=.returned (.tuple #[.string (baOf (fI0 s.data.toList).1),.string (baOf (fI0 s.data.toList).2.1),.bool (fI0 s.data.toList).2.2])∧Below w.heap.size w w':=by
 rcases oJ0 s.data.toList with ⟨hi,hc⟩ | ⟨i,hi,hlt,hc⟩
 ·rw [hc];have HI:Hid (Lib.indexByte s.data.toList 10=-1):=hi;clear hi hc;go_enter Tryz.func83,Tryz.ntmps83;go_wp2_with fail;refine (hR1 s w).mono ?_;rintro e w1 ⟨rfl,hw⟩;subst hw;rw [HI.out];go_wp2_with fail;refine bodyPost_ret (v:=.tuple #[.string (baOf s.data.toList),.string (baOf []),.bool false]) (by simp [results,Tryz.results83,go_sem,baOf]) rfl ⟨rfl,Below.refl _ _⟩
 ·rw [hc]
  have hsz:i<s.size:=by
   have:s.data.toList.length=s.size:=Array.length_toList;omega
  have h0:(0:Int)≤(i:Int):=by omega
  have HI:Hid (Lib.indexByte s.data.toList 10=i):=hi;clear hi hc hlt;go_enter Tryz.func83,Tryz.ntmps83;go_wp2_with fail;refine (hR1 s w).mono ?_;rintro e w1 ⟨rfl,hw⟩;subst hw;rw [HI.out];go_wp2_with fail;have hw0:IntKind.i64.wrap ((i:Int)+1)=(i:Int)+1:=IntWalk.i64_in _ (by omega);have hw1:(0:Int)≤(i:Int)+1:=by omega
  have hw2:((i:Int)+1).toNat=i+1:=by omega
  have hw3:i+1≤s.size:=by omega
  have hw4:i≤s.size:=by omega
  have hw5:¬((s.size:Int)<(i:Int)+1):=by omega
  have hw6:¬((s.size:Int)<(i:Int)):=by omega
  have hw7:¬((i:Int)+1<0):=by omega
  go_region;go_wp2_with fail;rw [hQ1 s i,pZ1 s (i+1)];exact bodyPost_ret (v:=.tuple #[.string (baOf (s.data.toList.take i)),.string (baOf (s.data.toList.drop (i+1))),.bool true]) (by simp [results,Tryz.results83,go_sem]) rfl ⟨rfl,(Below.refl _ _).drew⟩
set_option maxHeartbeats 1000000 in
theorem tP1 (s:ByteArray) (w:World) (hs:s.size≤1000000):
  Calls Tryz.prog 39 #[.string s,.string ⟨#[10]⟩] w fun e w'=>e=.returned (.tuple #[.string (baOf (fI0 s.data.toList).1),.string (baOf (fI0 s.data.toList).2.1),.bool (fI0 s.data.toList).2.2])∧Below w.heap.size w w':=by
 have hc:=hT1 s w hs;generalize fI0 s.data.toList=c at hc ⊢;obtain ⟨a,b,f⟩:=c;go_enter Tryz.func39,Tryz.ntmps39;go_wp2_with fail;refine hc.mono ?_;rintro e w1 ⟨rfl,hb⟩;clear hc;have HB:Hid (Below w.heap.size w w1):=hb;clear hb;go_wp2_with fail;exact bodyPost_ret (v:=.tuple #[.string (baOf a),.string (baOf b),.bool f]) (by simp [results,Tryz.results39,go_sem]) rfl ⟨rfl,HB.out⟩
attribute [local go_sem] Oper.semAt_some
attribute [local go_sem ↓] Go.wp_at_zero Go.wp_at_succ
def iR0 (t:ByteArray):List ByteArray:=(yN0 t.data.toList).map baOf
set_option maxHeartbeats 1000000 in
theorem qA1 (t:ByteArray) (w:World):Calls Tryz.prog 9 #[.string t] w fun e w'=>e=.returned (.func (.func 37) #[] #[.pointer (some ⟨w.heap.size,0,none⟩)])∧w'=w.alloc (.cells #[.string t] 9):=by
 have hmf:∀(fn:Fn) (first cap:Array Value) (w:World),(Instr.makeFunc fn first cap).run Tryz.prog w=.ok (.func fn first cap) w:=fun _ _ _ _=>rfl
 go_enter Tryz.func9,Tryz.ntmps9;go_wp2_with fail;go_ret;exact ⟨rfl,rfl⟩
def qB1:Value→Value→Nat
 | .string s,.bool true=>s.size+1
 | _,_=>0
set_option maxRecDepth 100000 in
set_option maxHeartbeats 4000000 in
theorem qC1 (n:Nat) (hn:1≤n) (l pb:Nat) (t:ByteArray) (ht:t.size≤30000) (J:List ByteArray→World→Prop) (hJ:∀pre W W',J pre W→Below W.heap.size W W'→J pre W')
  (hY:∀pre x rest W,J pre W→iR0 t=pre++x::rest→YieldAt Fence.wide (n - 1) Tryz.prog l #[.string x] W fun e W'=>e=.returned (.bool true)∧J (pre++[x]) W') (W:World) (h0:J [] W)
  (hp:W.cell? ⟨pb,0,none⟩=some (.string t)):
  CallsIn Fence.wide n Tryz.prog 37 #[.func (.yield l) #[] #[],.pointer (some ⟨pb,0,none⟩)] W fun e W'=>(∃v,e=.returned v)∧J (iR0 t) W':=by
 refine callsIn_of_wp Tryz.func37 rfl trivial ?_;simp only [Tryz.ntmps37,List.size_toArray,List.length_cons,List.length_nil,Nat.reduceAdd,Nat.reduceSub,Array.replicate_succ,Array.replicate_zero,List.push_toArray,List.append_toArray,List.nil_append,List.cons_append];have HJ:Hid (∀pre W W',J pre W→Below W.heap.size W W'→J pre W'):=hJ;have HY:Hid (∀pre x rest W,J pre W→iR0 t=pre++x::rest→YieldAt Fence.wide (n - 1) Tryz.prog l #[.string x] W fun e W'=>e=.returned (.bool true)∧J (pre++[x]) W'):=hY;clear hJ hY
 gi_wp2_with fail
 refine ⟨trivial,?_⟩;refine (callsIn_wide.2 (sP1 t W (by omega))).mono ?_;rintro e W1 ⟨rfl,hw⟩;subst hw
 gi_wp2_with fail
 have HT:Hid ((lO0 t.data.toList).length≤30000):=by
  show (lO0 t.data.toList).length≤30000;have h1:=yM0 t.data.toList;have h2:t.data.toList.length=t.size:=Array.length_toList;omega
 gi_loopw [3,4] (fun r m wr=>∃(s:List UInt8) (b:Bool) (pre:List ByteArray),r=.string (baOf s)∧m=.bool b∧s.length≤30000∧J pre wr∧iR0 t=pre++(if b=true then (bP0 s).map baOf else []))
  (fun r m _=>qB1 r m)
 case atStart=>exact ⟨lO0 t.data.toList,true,[],rfl,rfl,HT.out,h0,rfl⟩
 case round=>
  obtain ⟨s,b,pre,rfl,rfl,hsl,hJp,hL⟩:=hrel;have HJP:Hid (J pre wr):=hJp;cases b with
  | false=>
   have HL:Hid (iR0 t=pre):=by show _=_;rw [hL];simp
   clear hL hJp h0 hp
   gi_wp2_with fail
   go_end0;exact ⟨⟨_,rfl⟩,by rw [HL.out];exact HJP.out⟩
  | true=>
   have hcut:=oH0 s;have hlen:=uA0 s
   have hc:=tP1 (baOf s) wr (by
    have:(baOf s).size=s.length:=rfl;omega)
   rw [show (baOf s).data.toList=s from rfl] at hc;generalize fI0 s=c at hcut hlen hc;obtain ⟨a,b2,f⟩:=c
   have HL:Hid (iR0 t=pre++baOf a::(if f=true then (bP0 b2).map baOf else [])):=by
    show _=_;rw [hL,if_pos rfl,hcut];cases f <;> simp
   have HLN:Hid (a.length+b2.length+(if f=true then 1 else 0)=s.length):=hlen;clear hcut hlen hL hJp h0 hp
   gi_wp2_with fail
   refine ⟨trivial,?_⟩;refine (callsIn_wide.2 hc).mono ?_;rintro e w2 ⟨rfl,hb2⟩;obtain ⟨fn,tmps,assign,body,hy,hR⟩:=HY.out pre (baOf a) _ w2 (HJ.out _ _ _ HJP.out hb2) HL.out;clear hc hb2
   gi_wp2
   refine hR.mono ?_;rintro e W3 ⟨rfl,hJ3⟩;have HJ3:Hid _:=hJ3;clear hJ3 hy hR
   gi_wp2
   go_roundw
   case rel=>exact ⟨b2,f,pre++[baOf a],rfl,rfl,by have:=HLN.out;omega,HJ3.out,by rw [HL.out];simp⟩
   case measure=>
    have h1:qB1 (.string (baOf s)) (.bool true)=s.length+1:=rfl
    have h2:qB1 (.string (baOf b2)) (.bool f)≤(if f=true then b2.length+1 else 0):=by
     cases f
     ·exact lR7
     ·exact lR7
    have h3:=HLN.out;rw [h1];cases f
    ·simp at h2 h3 ⊢;omega
    ·simp at h2 h3 ⊢;omega
end Go.Proofs.YtaelphbianmckaaGreatDoor
namespace Go.Proofs.YtaelphbianmckaaGreatDoor
open Go.RowKit Go.Shelf
section
variable {P:Program} {n:Nat}
theorem bR1 {g:Operand} {ps:Array Tmp} {assign body:Code} {Q:Exit→Act→World→Prop} {a:Act} {w:World} (h1:1≤n) {gf:Nat} {lb:Array Value} (hg:a.eval g=.func (.func gf) #[] lb) (eg:∀args w,(callFunc gf args).run P w=.ok (.enter gf args) w) (hps:ps.size=1)
  (L:List ByteArray) (I:List ByteArray→World→Prop)
  (hseq:∀(J:List ByteArray→World→Prop),(∀pre W W',J pre W→Below W.heap.size W W'→J pre W')→
   (∀pre x rest W,J pre W→L=pre++x::rest→YieldAt Fence.wide (n - 1 - 1) P (w.heap.size+1) #[.string x] W fun e W'=>e=.returned (.bool true)∧J (pre++[x]) W')→
   ∀W1,Below w.heap.size w W1→J [] W1→CallsIn Fence.wide (n - 1) P gf (#[.func (.yield (w.heap.size+1)) #[] #[]]++lb) W1 fun e W'=>(∃v,e=.returned v)∧J L W')
  (hI:∀pre W W',I pre W→Below W.heap.size W W'→I pre W')
  (hIp:∀pre W r r',I pre W→W.heap[w.heap.size+1]? = some (.loop r)→I pre (W.putObj (w.heap.size+1) (.loop r')))
  (h0:∀W1,Below w.heap.size w W1→W1.heap.size=w.heap.size+2→I [] W1)
  (a1:ByteArray→Act)
  (hassign:∀(x:ByteArray) (W:World) (K:Act→World→Prop),K (a1 x) W→assign.wpIn (Fence.wide.inRound (w.heap.size+1)) (n - 1 - 1) P (Exit.then K (fun _ _ _=>False)) { tmps:=(ps.zip #[.string x]).foldl (fun t (p,v)=>t.setIfInBounds p v) a.tmps,defers:=[] } W)
  (hbody:∀pre x rest W,I pre W→L=pre++x::rest→(∃r,W.heap[w.heap.size+1]? = some (.loop r))→W.heap[w.heap.size]? = some (.deferred (some []))→body.wpIn (Fence.wide.inRound (w.heap.size+1)) (n - 1 - 1) P (fun e _ W3=>e=.normal∧I (pre++[x]) W3∧W3.heap[w.heap.size+1]? = W.heap[w.heap.size+1]?∧W3.heap[w.heap.size]? = W.heap[w.heap.size]?) (a1 x) W)
  (hdone:∀W,I L W→W.heap[w.heap.size]? = some (.deferred (some []))→Q .normal { a with defers:={ target:=.collected w.heap.size,args:=#[] }::a.defers } W):
  (Code.rangeFunc g ps assign body).wpIn Fence.wide n P Q a w:=by
 refine wpIn_rangeFunc ?_;intro fn hfn;rw [show Fence.wide.round=none from rfl];obtain ⟨rec,hrec⟩:∃rec:LoopState→Option Code→Loop,rec=fun st pe=>{ state:=st,pending:=pe,fn,tmps:=a.tmps,params:=ps,assign,body,defers:=w.heap.size }:=⟨_,rfl⟩
 obtain ⟨W1,hW1⟩:∃W1,(w.alloc (.deferred (some []))).alloc (.loop (rec .ready none))=W1:=⟨_,rfl⟩
 have hL1:W1.heap[w.heap.size+1]? = some (.loop (rec .ready none)):=by
  rw [←hW1];have:=World.alloc_heap_new (w.alloc (.deferred (some []))) (.loop (rec .ready none));rwa [World.size_alloc] at this
 have hK1:W1.heap[w.heap.size]? = some (.deferred (some [])):=by
  rw [←hW1];exact (Below.heap_alloc _ _ _ (by simp)).trans (World.alloc_heap_new w _)
 have hb1:Below w.heap.size w W1:=by
  rw [←hW1];exact (((Below.refl _ w).alloc lR7 _).alloc (by simp) _)
 have hs1:W1.heap.size=w.heap.size+2:=by rw [←hW1];simp
 refine ⟨w.heap.size+1,[{ target:=.collected w.heap.size,args:=#[] }],W1,{ target:=.fn (.func gf) lb,args:=#[.func (.yield (w.heap.size+1)) #[] #[]] },W1,gf,
  #[.func (.yield (w.heap.size+1)) #[] #[]]++lb,W1,?_,?_,?_,?_,fun _=>h1,?_⟩
 ·rw [←hW1,hrec];exact run_enterLoop_outer _ _ _ _ _
 ·simp only [resolve,hg];simp [go_sem]
 ·intro f' hf';exact trivial
 ·simp [invoke,go_sem,eg]
 ·refine (hseq (fun pre W=>I pre W∧W.heap[w.heap.size+1]? = some (.loop (rec .ready none))∧W.heap[w.heap.size]? = some (.deferred (some [])))
   (fun pre W W' hs hb=>⟨hI pre W W' hs.1 hb,(hb.block _ (lt_of_block hs.2.1)).trans hs.2.1,(hb.block _ (lt_of_block hs.2.2)).trans hs.2.2⟩) ?_ W1 hb1 ⟨h0 W1 hb1 hs1,hL1,hK1⟩).mono ?_
  ·rintro pre x rest W ⟨hi,hl,hk⟩ hpre;have hlt:w.heap.size+1<W.heap.size:=lt_of_block hl;have hy:=run_yield (P:=P) (args:=#[.string x]) hl (by rw [hrec];exact hps.symm);rw [hrec] at hy;refine ⟨fn,_,assign,body,hy,roundIn_of_wpIn hfn (hassign x W _ ?_)⟩;clear hy;refine ⟨_,run_beginRound hl (by rw [hrec]),?_⟩;have hl2:(W.putObj (w.heap.size+1) (.loop { rec .ready none with state:=.busy })).heap[w.heap.size+1]? = some (.loop { rec .ready none with state:=.busy }):=World.putObj_heap_same hlt;have hk2:(W.putObj (w.heap.size+1) (.loop { rec .ready none with state:=.busy })).heap[w.heap.size]? = some (.deferred (some [])):=(World.putObj_heap_other (by omega)).trans hk;refine wpIn_mono (hbody pre x rest _ (hIp _ _ _ _ hi hl) hpre ⟨_,hl2⟩ hk2) ?_;rintro e a3 W3 ⟨rfl,hi3,hl3,hk3⟩;rw [hl2] at hl3;rw [hk2] at hk3;have hr:=run_endRound (P:=P) none hl3;refine ⟨_,_,hr,rfl,hIp _ _ _ _ hi3 hl3,?_,(World.putObj_heap_other (by omega)).trans hk3⟩;rw [World.putObj_heap_same (lt_of_block hl3),hrec];rfl
  ·rintro e W2 ⟨⟨v,rfl⟩,hi,hl,hk⟩;exact ⟨none,_,by have:=run_endLoop (P:=P) hl (by rw [hrec];simp);rw [hrec] at this;exact this,hdone _ (hIp _ _ _ _ hi hl) ((World.putObj_heap_other (by omega)).trans hk)⟩
end
abbrev BdIs (B O:Nat) (bs:List Value) (w:World):Prop:=Lib.IsBuilderF 36 5 B O bs w
abbrev BdAt (B O:Nat) (bs:List Value) (w:World):Prop:=Lib.BuilderAtF 36 5 B O (.pointer (some ⟨O,0,none⟩)) bs w
def BdW (w:World) (O j:Nat):Prop:=j=O∨∃p v,w.heap[O]? = some (.cells #[p,v] 36 (0,0))∧v.ownBlock=some j
def BdE (w:World) (O:Nat) (bs:List Value):Prop:=bs=[]→∃p,w.heap[O]? = some (.cells #[p,.slice none 0 0] 36 (0,0))
theorem nE1 (B O:Nat) (bs:List Value) (w:World) (h:BdIs B O bs w):
  Calls Tryz.prog 40 #[.pointer (some ⟨O,0,none⟩)] w fun e w'=>e=.returned (.tuple #[])∧BdAt B O bs w'∧(w'=w∨w'=w.setCell ⟨O,0,none⟩ (.pointer (some ⟨O,0,none⟩))):=by
 rcases h with h | h
 ·refine (Any.Builder_copyCheck_fresh (ρ:=ds_lays166_ren) { pM0 with } fK0.toX72 O w h.cell0 h.shape h.frozen0).mono ?_;rintro e w' ⟨rfl,rfl⟩;exact ⟨rfl,h.used _,Or.inr rfl⟩
 ·refine (Any.Builder_copyCheck_used (ρ:=ds_lays166_ren) { pM0 with } fK0.toX72 O w h.cell0).mono ?_;rintro e w' ⟨rfl,rfl⟩;exact ⟨rfl,h,Or.inl rfl⟩
theorem qU0 {w w':World} {row:Option Nat} (h:w.grownBy w' row):Out (fun j=>row=some j) w w':=⟨h.os,h.tape,h.output,h.size,fun j hj hne=>h.block j hj (fun e=>hne e.symm)⟩
theorem nF1 {w w1 w2 w3:World} {O:Nat} {p v:Value} {bs:List Value} {B:Nat} (h:BdIs B O bs w) (hw1:w1=w∨w1=w.setCell ⟨O,0,none⟩ (.pointer (some ⟨O,0,none⟩))) (hb:w1.heap[O]? = some (.cells #[p,v] 36 (0,0))) (hg:Out (fun j=>v.ownBlock=some j) w1 w2) (h3:Out (fun j=>j=O) w2 w3):Out (BdW w O) w w3:=by
 have hv:∀j,v.ownBlock=some j→BdW w O j:=fun j hj=>by
  rcases hw1 with e | e
  ·rw [e] at hb;exact Or.inr ⟨p,v,hb,hj⟩
  ·obtain ⟨p0,v0,h0⟩:∃p0 v0,w.heap[O]? = some (.cells #[p0,v0] 36 (0,0)):=by
    rcases h with ⟨_,v0,h0,_⟩ | ⟨_,v0,h0,_⟩
    ·exact ⟨_,v0,h0⟩
    ·exact ⟨_,v0,h0⟩
   have h1:=aH0 (j:=0) (.pointer (some ⟨O,0,none⟩)) h0;rw [←e,hb] at h1;injection h1 with h1;injection h1 with h1 _ _
   have h2:v=v0:=by
    have:=congrArg (fun a:Array Value=>a[1]?) h1
    simpa using this
   exact Or.inr ⟨p0,v0,h0,h2 ▸ hj⟩
 have o1:Out (fun j=>j=O) w w1:=by
  rcases hw1 with e | e
  ·rw [e];exact Out.refl _ _
  ·rw [e];exact aN0 w ⟨O,0,none⟩ _
 exact ((o1.mono fun j hj=>(Or.inl hj:BdW w O j)).trans hg fun k hk=>Or.inl (hv k hk)).trans h3 fun k hk=>Or.inl (Or.inl hk)
theorem qV0 {w w1:World} {O:Nat} {p p' v v':Value} (hw1:w1=w∨w1=w.setCell ⟨O,0,none⟩ (.pointer (some ⟨O,0,none⟩))) (h0:w.heap[O]? = some (.cells #[p,v'] 36 (0,0))) (hb:w1.heap[O]? = some (.cells #[p',v] 36 (0,0))):v=v':=by
 rcases hw1 with e | e
 ·rw [e,h0] at hb;injection hb with h1;injection h1 with h1 _ _;have:=congrArg (fun a:Array Value=>a[1]?) h1
  simpa using this.symm
 ·have h1:=aH0 (j:=0) (.pointer (some ⟨O,0,none⟩)) h0;rw [←e,hb] at h1;injection h1 with h1;injection h1 with h1 _ _;have:=congrArg (fun a:Array Value=>a[1]?) h1
  simpa using this
theorem Tryz.infoU8:(Tryz.prog.info? 5).map (fun i=>(i.zero,i.size,i.bytes))=some (some (.int .u8 0),1,1):=by kernel_rfl
set_option maxRecDepth 8000 in
set_option maxHeartbeats 2000000 in
theorem lU1 (B O:Nat) (bs:List Value) (s:ByteArray) (w:World) (h:BdIs B O bs w) (hlen:bs.length+s.size≤1000000000) (hBw:B≤w.heap.size):
  Calls Tryz.prog 10 #[.pointer (some ⟨O,0,none⟩),.string s] w fun e w'=>e=.returned (.tuple #[.int .i64 s.size,.nilIface])∧BdAt B O (bs++Lib.strCells s) w'∧Out (BdW w O) w w'∧(BdE w O bs→BdE w' O (bs++Lib.strCells s)):=by
 obtain ⟨i0,hi,hz0,hz1,hz2⟩:=info_parts Tryz.infoU8;have H:Hid (BdIs B O bs w):=h;clear h;go_enter Tryz.func10,Tryz.ntmps10;go_wp2_with fail;refine (nE1 B O bs w H.out).mono ?_;rintro e w1 ⟨rfl,h1,hw1⟩;have HW1:Hid _:=hw1;have hsz:w.heap.size≤w1.heap.size:=by rcases hw1 with e | e <;> rw [e] <;> simp
 obtain ⟨hB,v,hbk,hown,hne⟩:=h1;have c0:w1.cell? ⟨O,0,none⟩=some (.pointer (some ⟨O,0,none⟩)):=aA0 (j:=0) hbk rfl;have c1:w1.cell? ⟨O,1,none⟩=some v:=aA0 (j:=1) hbk rfl;have HBK:Hid _:=hbk;clear hw1 hbk;go_wp2_with (at_builtin;refine Lib.wpList_append_own_stringF _ rfl _ _ 34 9 rfl B 5 i0 Tryz.underlying34 Tryz.underlying9 hi hz0 hz1 hz2 _ _ _ rfl hown s rfl ?c3 ?c4 ?c5 ?_)
 case c3=>unfold maxLen;omega
 case c4=>omega
 case c5=>omega
 intro v' w2 hown' hgrow hnil;have HNL:Hid _:=hnil;clear hnil;have hb2:w2.heap[O]? = some (.cells #[.pointer (some ⟨O,0,none⟩),v] 36 (0,0)):=(hgrow.block O (lt_of_block HBK.out) (fun e=>hne e.symm)).trans HBK.out;have d0:w2.cell? ⟨O,0,none⟩=some (.pointer (some ⟨O,0,none⟩)):=aA0 (j:=0) hb2 rfl;have d1:w2.cell? ⟨O,1,none⟩=some v:=aA0 (j:=1) hb2 rfl;have f1:w2.frozen? ⟨O,1,none⟩=false:=aB0 (j:=1) hb2
 obtain ⟨ao,n',cap,rfl⟩:∃ao n' cap,v'=.slice ao n' cap:=by
  rcases hown'.2 with ⟨hv,_⟩ | ⟨g,cap,cur,fz,hv,_⟩
  ·exact ⟨_,_,_,hv⟩
  ·exact ⟨_,_,_,hv⟩
 have HOW:Hid _:=hown';have HGR:Hid (Out (fun j=>v.ownBlock=some j) w1 w2):=qU0 hgrow;have HB2:Hid _:=hb2;clear hown' hgrow hb2 c0 c1;go_wp2;go_ret2;refine ⟨rfl,?_,nF1 H.out HW1.out HBK.out HGR.out (aN0 w2 ⟨O,1,none⟩ _),fun hE h0=>?_⟩;rotate_left
 ·have q1:bs=[]:=(List.append_eq_nil_iff.1 h0).1;have q2:s.size=0:=by have:=congrArg List.length (List.append_eq_nil_iff.1 h0).2;rwa [Lib.strCells_length] at this
  obtain ⟨p,hp⟩:=hE q1;have q3:v=.slice none 0 0:=qV0 HW1.out hp HBK.out;have q5:s=ByteArray.empty:=ByteArray.size_eq_zero_iff.1 q2;rw [HNL.out.2 ⟨q3,by first | exact q5 | exact q2⟩];exact ⟨_,aH0 (j:=1) _ HB2.out⟩
 exact Lib.BuilderAtF.put (T:=36) (e:=5) hB HB2.out (bs':=bs++Lib.strCells s) (by rw [List.length_append,Lib.strCells_length];exact HOW.out) (by decide)
set_option maxRecDepth 8000 in
set_option maxHeartbeats 2000000 in
theorem lV1 (B O:Nat) (bs:List Value) (c:Int) (w:World) (h:BdIs B O bs w) (hlen:bs.length+1≤1000000000) (hBw:B≤w.heap.size):
  Calls Tryz.prog 12 #[.pointer (some ⟨O,0,none⟩),.int .u8 c] w fun e w'=>e=.returned .nilIface∧BdAt B O (bs++[.int .u8 c]) w'∧Out (BdW w O) w w':=by
 obtain ⟨i0,hi,hz0,hz1,hz2⟩:=info_parts Tryz.infoU8;have H:Hid (BdIs B O bs w):=h;clear h;go_enter Tryz.func12,Tryz.ntmps12;go_wp2_with fail;refine (nE1 B O bs w H.out).mono ?_;rintro e w1 ⟨rfl,h1,hw1⟩;have HW1:Hid _:=hw1;have hsz:w.heap.size≤w1.heap.size:=by rcases hw1 with e | e <;> rw [e] <;> simp
 obtain ⟨hB,v,hbk,hown,hne⟩:=h1;have c0:w1.cell? ⟨O,0,none⟩=some (.pointer (some ⟨O,0,none⟩)):=aA0 (j:=0) hbk rfl;have c1:w1.cell? ⟨O,1,none⟩=some v:=aA0 (j:=1) hbk rfl;have HBK:Hid _:=hbk;clear hw1 hbk;have HBL:Hid (Below w1.heap.size w1 (w1.alloc (.cells #[.int .u8 c] 5))):=bel1 w1 _;go_wp2_with (at_builtin;refine wpList_append_ownF _ rfl _ _ 34 rfl B 5 i0 (.int .u8 0) 1 1 Tryz.underlying34 hi hz0 hz1 hz2 rfl (by decide) _ _ _ rfl (hown.alloc _) ⟨w1.heap.size,0,none⟩ 1 1 [.int .u8 c] rfl rfl ?c1 ?c2 ?c3 ?c4 ?c5 ?_)
 case c1=>
  intro j u hj
  match j,hj with
  | 0,hj=>simp at hj;subst hj;simp [Addr.add]
 case c2=>intro u hu;simp at hu;subst hu;rfl
 case c3=>unfold maxLen;omega
 case c4=>omega
 case c5=>simp;omega
 intro v' w2 hown' hgrow _;have hb2:w2.heap[O]? = some (.cells #[.pointer (some ⟨O,0,none⟩),v] 36 (0,0)):=(hgrow.block O (by have:=lt_of_block HBK.out;simp;omega) (fun e=>hne e.symm)).trans (aD0 HBK.out HBL.out lR7);have d0:w2.cell? ⟨O,0,none⟩=some (.pointer (some ⟨O,0,none⟩)):=aA0 (j:=0) hb2 rfl;have d1:w2.cell? ⟨O,1,none⟩=some v:=aA0 (j:=1) hb2 rfl;have f1:w2.frozen? ⟨O,1,none⟩=false:=aB0 (j:=1) hb2
 obtain ⟨ao,n',cap,rfl⟩:∃ao n' cap,v'=.slice ao n' cap:=by
  rcases hown'.2 with ⟨hv,_⟩ | ⟨g,cap,cur,fz,hv,_⟩
  ·exact ⟨_,_,_,hv⟩
  ·exact ⟨_,_,_,hv⟩
 have HOW:Hid _:=hown';have HGR:Hid (Out (fun j=>v.ownBlock=some j) w1 w2):=(Out.of_below HBL.out lR7).trans (qU0 hgrow) (Went.refl _ _);have HB2:Hid _:=hb2;clear hown' hgrow hb2 c0 c1;go_wp2;go_ret;refine ⟨rfl,?_,nF1 H.out HW1.out HBK.out HGR.out (aN0 w2 ⟨O,1,none⟩ _)⟩;exact Lib.BuilderAtF.put (T:=36) (e:=5) hB HB2.out (bs':=bs++[.int .u8 c]) (by rw [List.length_append,List.length_singleton];exact HOW.out) (by decide)
theorem kZ0 {W:World} {B O j:Nat} {l:List UInt8} (h:BdIs B O (Lib.byteCells l) W) (hE:BdE W O (Lib.byteCells l)) (hj:BdW W O j):j=O∨((∃cur fz,W.heap[j]? = some (.cells cur 5 fz))∧∃z,W.cell? ⟨j,0,none⟩=some (.int .u8 z)):=by
 rcases hj with hj | ⟨p,v,hp,hv⟩
 ·exact Or.inl hj
 ·right
  have hrow:W.ownsRowF B 5 1 v (Lib.byteCells l).length (Lib.byteCells l):=by
   rcases h with ⟨_,v0,h0,h1,_⟩ | ⟨_,v0,h0,h1,_⟩
   ·rw [qV0 (Or.inl rfl) h0 hp];exact h1
   ·rw [qV0 (Or.inl rfl) h0 hp];exact h1
  cases l with
  | nil=>
   obtain ⟨p',hp'⟩:=hE rfl;rw [qV0 (Or.inl rfl) hp' hp] at hv;cases hv
  | cons c l=>
   obtain ⟨_,⟨e,_⟩ | ⟨g,cap,cur,fz,e,_,hg,_,_,_,_,ht⟩⟩:=hrow
   ·rw [e] at hv;cases hv
   ·rw [e] at hv;obtain rfl:g=j:=by simpa [Value.ownBlock] using hv
    refine ⟨⟨cur,fz,hg⟩,c.toNat,?_⟩;have h1:(cur.toList.take ((Lib.byteCells (c::l)).length*1))[0]? = some (.int .u8 c.toNat):=by rw [ht];rfl
    rw [List.getElem?_take] at h1;split at h1
    ·have h4:cur[0]? = some (.int .u8 c.toNat):=by rw [←h1];simp
     simp [World.cell?,hg,h4]
    ·cases h1
theorem DsIs.bdw {W W':World} {B O lo sb n:Nat} {x:DsK} {H:DsS} {l:List UInt8} (hs:DsIs W lo sb x H n) (h:BdIs B O (Lib.byteCells l) W) (hE:BdE W O (Lib.byteCells l)) (hO:O<lo) (ho:Out (BdW W O) W W'):DsIs W' lo sb x H n:=by
 have hOb:∃p v,W.heap[O]? = some (.cells #[p,v] 36 (0,0))∧(p=.pointer none∨p=.pointer (some ⟨O,0,none⟩)):=by
  rcases h with ⟨_,v0,h0,_⟩ | ⟨_,v0,h0,_⟩
  ·exact ⟨_,v0,h0,Or.inl rfl⟩
  ·exact ⟨_,v0,h0,Or.inr rfl⟩
 obtain ⟨p,v,hp,hpp⟩:=hOb;have cO:W.cell? ⟨O,0,none⟩=some p:=aA0 (j:=0) hp rfl
 have typ:∀{j:Nat} {c:Array Value} {t:TypeId} {f:Nat×Nat},W.heap[j]? = some (.cells c t f)→t≠5→t≠36→¬BdW W O j:=fun {j c t f} hh h1 h2 hw=>by
  rcases kZ0 h hE hw with e | ⟨⟨cur,fz,hg⟩,_⟩
  ·rw [e,hp] at hh;injection hh with hh;injection hh with _ hh _;exact h2 hh.symm
  ·rw [hh] at hg;injection hg with hg;injection hg with _ hg _;exact h1 hg
 refine ⟨aE0 hs.box ho (typ hs.box (by decide) (by decide)),⟨hs.slt.1,Nat.le_trans hs.slt.2 ho.size⟩,fun h0=>?_,fun M hM=>?_⟩
 ·obtain ⟨tb,h1,h2,h3,h4,h5,cs,f,h6⟩:=hs.rows h0;have hne:=typ h6 (by decide) (by decide);exact ⟨tb,h1,bR0 h2 ho hne,h3,h4,h5,cs,f,aE0 h6 ho hne⟩
 ·obtain ⟨h1,h2⟩:=hs.eg M hM;refine ⟨h1.outT ho (fun j hj hw=>?_) ⟨?_,fun j u hj=>?_⟩,h2⟩
  ·rcases kZ0 h hE hw with e | ⟨⟨cur,fz,hg⟩,_⟩
   ·have:=h2.2.1 j hj;omega
   ·exact h1.farU hj _ _ _ (Or.inl rfl) hg
  ·refine bH0 h1.tab.1 ho fun hw=>?_
   have ht:=h1.tab.1;rcases kZ0 h hE hw with e | ⟨_,z,hz⟩
   ·have e':x.k.tb=O:=e;rw [e',cO] at ht;rcases hpp with q | q <;> rw [q] at ht <;> cases ht
   ·rw [hz] at ht;cases ht
  ·have hcell:=h1.tab.2;refine bH0 (hcell j u hj) ho fun hw=>?_
   have hz0:∃z,W.cell? ⟨x.k.cb,0,none⟩=some (.int .i64 z):=by
    cases hrs:M.rs with
    | nil=>rw [hrs] at hj;exact absurd hj (by simp [flat])
    | cons r rs=>
     have:=hcell 0 (.int .i64 r.1) (by rw [hrs];rfl);exact ⟨r.1,this⟩
   obtain ⟨z0,hz0⟩:=hz0;rcases kZ0 h hE hw with e | ⟨_,z,hz⟩
   ·have e':x.k.cb=O:=e;rw [e',cO] at hz0;rcases hpp with q | q <;> rw [q] at hz0 <;> cases hz0
   ·rw [hz] at hz0;cases hz0
attribute [local go_sem] Oper.semAt_some
attribute [local go_sem ↓] Go.wp_at_zero Go.wp_at_succ
def eF0:List ByteArray→Nat
 | []=>0
 | x::l=>x.size+1+eF0 l
theorem lZ0:∀a b:List ByteArray,eF0 (a++b)=eF0 a+eF0 b
 | [],b=>by simp [eF0]
 | x::a,b=>by simp only [List.cons_append,eF0,lZ0 a b];omega
theorem cJ0.neB {W:World} {mb sb b:Nat} {vs:Array Value} {t:TypeId} {f:Nat×Nat} (h:cJ0 W mb sb) (hb:W.heap[b]? = some (.cells vs t f)):b≠mb:=fun e=>by
 obtain ⟨es,clock,h1,_⟩:=h;rw [e,h1] at hb;cases hb
structure SeIs (w:World) (S O mb db lo:Nat) (pre:List ByteArray) (W:World):Prop where
 is:∃x n,DsIs W lo S x (gV0 pre DsS.zero) n∧4*n≤eF0 pre
 bd:BdIs O O (Lib.byteCells (fZ0 pre DsS.zero)) W
 be:BdE W O (Lib.byteCells (fZ0 pre DsS.zero))
 de:cJ0 W mb S
 dv:W.heap[db]? = some (.cells #[.map (some mb)] 37 (0,0))
 va:DsVars W
 bl:Below w.heap.size w W
 rl:(gV0 pre DsS.zero).rs.length≤10000
 ln:(fZ0 pre DsS.zero).length≤30001*pre.length
section
variable {w W W':World} {S O mb db lo:Nat} {pre:List ByteArray}
theorem lW1 {B:Nat} {bs:List Value} (h:BdIs B O bs W) (hb:Below W.heap.size W W'):BdIs B O bs W':=by
 have row:∀{v:Value},W.ownsRowF B 5 1 v bs.length bs→W'.ownsRowF B 5 1 v bs.length bs:=fun {v} hr=>by
  obtain ⟨h1,h2 | ⟨g,cap,cur,fz,e,q1,hg,q2⟩⟩:=hr
  ·exact ⟨h1,Or.inl h2⟩
  ·exact ⟨h1,Or.inr ⟨g,cap,cur,fz,e,q1,aD0 hg hb lR7,q2⟩⟩
 rcases h with ⟨q,v,h0,h1,h2⟩ | ⟨q,v,h0,h1,h2⟩
 ·exact Or.inl ⟨q,v,aD0 h0 hb lR7,row h1,h2⟩
 ·exact Or.inr ⟨q,v,aD0 h0 hb lR7,row h1,h2⟩
theorem hU1 {bs:List Value} (h:BdE W O bs) (hb:Below W.heap.size W W'):BdE W' O bs:=fun e=>by
 obtain ⟨p,hp⟩:=h e;exact ⟨p,aD0 hp hb lR7⟩
theorem SeIs.below (h:SeIs w S O mb db lo pre W) (hb:Below W.heap.size W W') (hN:12≤w.heap.size):SeIs w S O mb db lo pre W':=by
 obtain ⟨x,n,h1,h2⟩:=h.is;exact ⟨⟨x,n,h1.below hb,h2⟩,lW1 h.bd hb,hU1 h.be hb,h.de.same (hb.block mb h.de.lt),aD0 h.dv hb lR7,h.va.below hb (Nat.le_trans hN h.bl.size),aC0 h.bl hb,h.rl,h.ln⟩
theorem qD1 {B sb:Nat} {bs:List Value} (h:BdIs B O bs W) (hO:O<lo) (hs:O≠sb) (hsb:∀c f,W.heap[sb]?≠some (.cells c 5 f)) (ho:Out (DsW W lo sb) W W'):BdIs B O bs W':=by
 have hOk:¬DsW W lo sb O:=fun e=>e.elim hs (fun e=>by have:=e.1;omega)
 have row:∀{v:Value},W.ownsRowF B 5 1 v bs.length bs→W'.ownsRowF B 5 1 v bs.length bs:=fun {v} hr=>by
  obtain ⟨h1,h2 | ⟨g,cap,cur,fz,e,q1,hg,q2⟩⟩:=hr
  ·exact ⟨h1,Or.inl h2⟩
  ·refine ⟨h1,Or.inr ⟨g,cap,cur,fz,e,q1,aE0 hg ho (fun e=>?_),q2⟩⟩;rcases e with e | e
   ·exact hsb _ _ (e ▸ hg)
   ·exact e.2 _ _ _ (Or.inl rfl) hg
 rcases h with ⟨q,v,h0,h1,h2⟩ | ⟨q,v,h0,h1,h2⟩
 ·exact Or.inl ⟨q,v,aE0 h0 ho hOk,row h1,h2⟩
 ·exact Or.inr ⟨q,v,aE0 h0 ho hOk,row h1,h2⟩
theorem lX1 {sb:Nat} {bs:List Value} (h:BdE W O bs) (hO:O<lo) (hs:O≠sb) (ho:Out (DsW W lo sb) W W'):BdE W' O bs:=fun e=>by
 obtain ⟨p,hp⟩:=h e;exact ⟨p,aE0 hp ho (fun e=>e.elim hs (fun e=>by have:=e.1;omega))⟩
theorem sK0 {B j:Nat} {l:List UInt8} (h:BdIs B O (Lib.byteCells l) W) (hE:BdE W O (Lib.byteCells l)) (hj:j≠O) (ht:∀c f,W.heap[j]?≠some (.cells c 5 f)):¬BdW W O j:=fun hw=>by
 rcases kZ0 h hE hw with e | ⟨⟨cur,fz,hg⟩,_⟩
 ·exact hj e
 ·exact ht _ _ hg
theorem qE1 {B:Nat} {bs:List Value} (h:BdIs B O bs W) {j:Nat} (hw:BdW W O j):B≤j:=by
 rcases hw with e | ⟨p,v,hp,hv⟩
 ·rcases h with ⟨q,_⟩ | ⟨q,_⟩ <;> omega
 ·have hrow:W.ownsRowF B 5 1 v bs.length bs:=by
   rcases h with ⟨_,v0,h0,h1,_⟩ | ⟨_,v0,h0,h1,_⟩
   ·rw [qV0 (Or.inl rfl) h0 hp];exact h1
   ·rw [qV0 (Or.inl rfl) h0 hp];exact h1
  obtain ⟨_,⟨e,_⟩ | ⟨g,cap,cur,fz,e,q1,_⟩⟩:=hrow
  ·rw [e] at hv;cases hv
  ·rw [e] at hv;have:g=j:=by simpa [Value.ownBlock] using hv
   omega
theorem lA0 {a:Addr} {v:Value} (h:W.cell? a=some v):∃c t f,W.heap[a.block]? = some (.cells c t f):=by
 unfold World.cell? at h;split at h
 ·rename_i e;exact ⟨_,_,_,e⟩
 ·cases h
theorem DsIs.outF {Z:Nat→Prop} {sb n:Nat} {x:DsK} {H:DsS} (h:DsIs W lo sb x H n) (ho:Out Z W W') (h2:∀j c t f,W.heap[j]? = some (.cells c t f)→¬Z j) (h3:∀j,lo≤j→¬Z j):DsIs W' lo sb x H n:=by
 refine ⟨aE0 h.box ho (h2 _ _ _ _ h.box),⟨h.slt.1,Nat.le_trans h.slt.2 ho.size⟩,fun h0=>?_,fun M hM=>?_⟩
 ·obtain ⟨tb,q1,q2,q3,q4,q5,cs,f,q6⟩:=h.rows h0;exact ⟨tb,q1,bR0 q2 ho (h2 _ _ _ _ q6),q3,q4,q5,cs,f,aE0 q6 ho (h2 _ _ _ _ q6)⟩
 ·obtain ⟨q1,q2⟩:=h.eg M hM;refine ⟨q1.outT ho (fun j hj=>h3 j (q2.2.1 j hj)) ⟨?_,fun j u hj=>?_⟩,q2⟩
  ·obtain ⟨c,t,f,e⟩:=lA0 q1.tab.1;exact bH0 q1.tab.1 ho (h2 _ _ _ _ e)
  ·obtain ⟨c,t,f,e⟩:=lA0 (q1.tab.2 j u hj);exact bH0 (q1.tab.2 j u hj) ho (h2 _ _ _ _ e)
theorem qF1 {Z:Nat→Prop} {B:Nat} {bs:List Value} (h:BdIs B O bs W) (ho:Out Z W W') (h2:∀j c t f,W.heap[j]? = some (.cells c t f)→¬Z j):BdIs B O bs W':=by
 have row:∀{v:Value},W.ownsRowF B 5 1 v bs.length bs→W'.ownsRowF B 5 1 v bs.length bs:=fun {v} hr=>by
  obtain ⟨h1,q | ⟨g,cap,cur,fz,e,q1,hg,q2⟩⟩:=hr
  ·exact ⟨h1,Or.inl q⟩
  ·exact ⟨h1,Or.inr ⟨g,cap,cur,fz,e,q1,aE0 hg ho (h2 _ _ _ _ hg),q2⟩⟩
 rcases h with ⟨q,v,h0,h1,h3⟩ | ⟨q,v,h0,h1,h3⟩
 ·exact Or.inl ⟨q,v,aE0 h0 ho (h2 _ _ _ _ h0),row h1,h3⟩
 ·exact Or.inr ⟨q,v,aE0 h0 ho (h2 _ _ _ _ h0),row h1,h3⟩
theorem hV1 (l:Nat) (o:Obj) (W:World):Out (fun j=>j=l) W (W.putObj l o):=⟨rfl,rfl,rfl,by simp [World.putObj],fun j _ hj=>World.putObj_heap_other (fun e=>hj (by omega))⟩
theorem SeIs.put {l:Nat} {r r':Loop} (h:SeIs w S O mb db lo pre W) (hl:W.heap[l]? = some (.loop r)) (hlo:l<lo) (hm:mb≠l) (hw:w.heap.size≤l) (hN:12≤w.heap.size):SeIs w S O mb db lo pre (W.putObj l (.loop r')):=by
 have ho:=hV1 l (.loop r') W;have h2:∀j c t f,W.heap[j]? = some (.cells c t f)→¬j=l:=fun j c t f e q=>by rw [q,hl] at e;cases e
 have hb:Below w.heap.size W (W.putObj l (.loop r')):=ho.below (fun j hj=>by omega) h.bl.size;obtain ⟨x,n,q1,q2⟩:=h.is;refine ⟨⟨x,n,q1.outF ho h2 (fun j hj e=>by omega),q2⟩,qF1 h.bd ho h2,fun e=>?_,h.de.same (ho.block mb h.de.lt hm),aE0 h.dv ho (h2 _ _ _ _ h.dv),h.va.below (hb.mono hN) lR7,h.bl.trans hb,h.rl,h.ln⟩;obtain ⟨p,hp⟩:=h.be e;exact ⟨p,aE0 hp ho (h2 _ _ _ _ hp)⟩
end
end Go.Proofs.YtaelphbianmckaaGreatDoor
namespace Go.Proofs.YtaelphbianmckaaGreatDoor
open Go.RowKit Go.Shelf
theorem sL0 {l:List Int} (h:∀z∈l,in64 z):(rowT l).length≤l.length*22:=by
 have:=dI0 (m:=21) (l.map Lib.itoa) [32] (fun x hx=>by
  obtain ⟨z,hz,rfl⟩:=List.mem_map.1 hx;exact Lib.itoa_length_le _ (h z hz).1 (h z hz).2)
 rw [List.length_map] at this;exact this
theorem pF0 {t:List UInt8} {fs:List Fil} (ht:t.length≤88) (h:∀f∈fs,filI f) (hn:fs.length≤200):(tX0 t fs).length≤30000:=by
 have:=dI0 (m:=88) (t::fs.map filT) [44,32] (fun x hx=>by
  rcases List.mem_cons.1 hx with rfl | hx
  ·exact ht
  ·obtain ⟨f,hf,rfl⟩:=List.mem_map.1 hx;exact zE0 (h f hf))
 rw [List.length_cons,List.length_map] at this;have h2:([44,32]:List UInt8).length=2:=rfl;rw [h2] at this;show (Lib.join (t::fs.map filT) [44,32]).length≤30000;have:(fs.length+1)*(88+2)≤201*90:=Nat.mul_le_mul_right _ (by omega);omega
theorem zJ0 {l:List Ord} (h:∀o∈l,jG0 o) (hn:l.length≤200):(tY0 l).length≤30000:=by
 have:=dI0 (m:=88) (l.map ordT) [44,32] (fun x hx=>by
  obtain ⟨o,ho,rfl⟩:=List.mem_map.1 hx;exact zF0 (h o ho))
 rw [List.length_map] at this;have h2:([44,32]:List UInt8).length=2:=rfl;rw [h2] at this;show (Lib.join (l.map ordT) [44,32]).length≤30000;have:l.length*(88+2)≤200*90:=Nat.mul_le_mul_right _ hn;omega
theorem pG0 {e:Int} {t:List UInt8} (h:t.length≤30000):(orE e t).2.length≤30000:=by
 unfold orE;split
 ·exact h
 ·exact Nat.zero_le _
theorem sQ1 (p:Int):(phT p).length≤30000:=by
 unfold phT
 repeat' split
 all_goals decide
theorem fG0 (d:Nat):(gD0 d).length≤30000:=by
 by_cases h:d<18
 ·have:∀k,k<18→(gD0 k).length≤30000:=fun k hk=>by
   match k,hk with
   | 0,_=>decide
   | 1,_=>decide
   | 2,_=>decide
   | 3,_=>decide
   | 4,_=>decide
   | 5,_=>decide
   | 6,_=>decide
   | 7,_=>decide
   | 8,_=>decide
   | 9,_=>decide
   | 10,_=>decide
   | 11,_=>decide
   | 12,_=>decide
   | 13,_=>decide
   | 14,_=>decide
   | 15,_=>decide
   | 16,_=>decide
   | 17,_=>decide
   | k+18,h=>exact absurd h (by omega)
  exact this d h
 ·have:gD0 d=[]:=by
   unfold gD0;have hd:kO0[d]? = none:=List.getElem?_eq_none (show kO0.length≤d by show 18≤d;omega);rw [List.getD_eq_getElem?_getD,hd];rfl
  rw [this];exact Nat.zero_le _
section
variable {W:World} {lo sb n:Nat} {x:DsK} {H:DsS} {M:Mkt}
theorem lY1 (h:DsIs W lo sb x H n) (hn:n≤1900) (hM:H.mkt=some M) (d:Nat) (l:List Int) (hl:∀k,in64 (nI l k)):(dM0 d l M).1.2.length≤30000:=by
 obtain ⟨hE,⟨lots,side,hI,hN⟩,_,_,hnow⟩:=h.eg M hM;have hL:=hE.lok;have h100:=hE.few100;unfold dM0;split
 ·exact pG0 (pF0 (by decide) (xG0 hI hL hN (hl 0) (hl 1) (hl 2)).1 (by have:=(sD0 (o:=ordI 1 l) h100).1;omega))
 ·exact pG0 (pF0 (by decide) (xG0 hI hL hN (hl 0) (hl 1) (hl 2)).1 (by have:=(sD0 (o:=ordI 2 l) h100).1;omega))
 ·exact pG0 (fG0 _)
 ·obtain ⟨q1,_,_,q2,_⟩:=zI0 hI hL hN;have q3:=uV0 hL h100;have q4:=q2.now
  have q5:=sL0 (l:=[(bO0 M).2.now]) (fun z hz=>by
   rw [List.mem_singleton.1 hz];exact bC0 (by omega))
  refine pG0 (pF0 ?_ q1 (by omega));exact Nat.le_trans q5 (show 1*22≤88 by decide)
 ·exact pG0 (fG0 _)
 ·exact pG0 (fG0 _)
 ·exact sQ1 _
 ·obtain ⟨b1,b2,b3⟩:=gW1 hL h100 hI.la;refine Nat.le_trans (sL0 fun z hz=>?_) (show 3*22≤30000 by decide);simp only [List.mem_cons,List.not_mem_nil,or_false] at hz;rcases hz with rfl | rfl | rfl
  ·exact b1
  ·exact b2
  ·exact b3
 ·refine Nat.le_trans (sL0 fun z hz=>?_) (show 2*22≤30000 by decide);simp only [List.mem_cons,List.not_mem_nil,or_false] at hz;rcases hz with rfl | rfl
  ·exact bC0 (by have:=hI.an;omega)
  ·exact bC0 (by have:=hI.la;omega)
 ·show (if _ then _ else _:Int×List UInt8).2.length≤30000;split
  ·refine zJ0 (fun o ho=>zB0 hI hL hN o (aP0.1 ho).1) ?_;have:=iE0 (nI l 0) M.L;omega
  ·exact Nat.zero_le _
 ·exact zJ0 (zC0 hI hN) (by have:=hI.few;omega)
theorem lZ1 (h:DsIs W lo sb x H n) (hn:n≤1900) (d:Nat) (l:List Int) (hl:∀k,in64 (nI l k)):(aX0 d l H).1.2.length≤30000:=by
 unfold aX0;split
 ·exact fG0 _
 ·exact fG0 _
 ·exact fG0 _
 ·split
  ·exact fG0 _
  ·exact Nat.zero_le _
 ·refine pG0 (Nat.le_trans (sL0 fun z hz=>?_) (show 2*22≤30000 by decide));simp only [List.mem_cons,List.not_mem_nil,or_false] at hz;rcases hz with rfl | rfl
  ·exact (xE0 _ _).1
  ·exact (xE0 _ _).2
 ·exact fG0 _
 ·show rH1.length≤30000;decide
 ·split
  ·exact Nat.zero_le _
  ·rename_i hM;exact lY1 h hn hM _ l hl
theorem qG1 {e:Int} (h:bT0 e):(errT e).length≤30000:=by
 have:=Lib.itoa_length_le e (nA0 h).1 (nA0 h).2;unfold errT;rw [List.length_append];have:([101,114,114,111,114,32]:List UInt8).length=6:=rfl;omega
theorem qW0 {r:Int×List UInt8} (h1:bT0 r.1) (h2:r.2.length≤30000):(ansT r).length≤30000:=by
 unfold ansT;split
 ·exact h2
 ·exact qG1 h1
theorem qH1 (h:DsIs W lo sb x H n) (hn:n≤1900) (s:ByteArray):(ansT (dH0 s H).1).length≤30000:=by
 have z:bT0 3:=⟨by decide,by decide⟩;unfold dH0;split
 ·exact qW0 sm0 (show 2≤30000 by decide)
 ·split
  ·exact qW0 z (Nat.zero_le _)
  ·split
   ·exact qW0 z (Nat.zero_le _)
   ·split
    ·exact qW0 z (Nat.zero_le _)
    ·rename_i l hl;split
     ·exact qW0 sm6 (Nat.zero_le _)
     ·refine qW0 (lY0 _ l H) (lZ1 h hn _ l fun k=>?_)
      by_cases hk:k<l.length
      ·unfold nI;have:l.getD k 0=l[k]:=by simp [hk]
       rw [this];exact mZ0 _ hl _ (List.getElem_mem hk)
      ·unfold nI;have:l.getD k 0=0:=by simp [Nat.le_of_not_lt hk]
       rw [this];exact ⟨by decide,by decide⟩
end
attribute [local go_sem] Oper.semAt_some
attribute [local go_sem ↓] Go.wp_at_zero Go.wp_at_succ
theorem pH0:∀s:List UInt8,eF0 ((bP0 s).map baOf)=s.length+1
 | []=>rfl
 | c::s=>by
  have ih:=pH0 s;unfold bP0;split
  ·simp only [List.map_cons,eF0,ih,List.length_cons];show 0+1+_=_;omega
  ·cases e:bP0 s with
   | nil=>exact absurd e (qD0 s)
   | cons x xs=>
    rw [e] at ih;simp only [List.map_cons,eF0,List.length_cons] at ih ⊢;have h1:(baOf (c::x)).size=x.length+1:=rfl;have h2:(baOf x).size=x.length:=rfl;omega
theorem xI0 (t:ByteArray):eF0 (iR0 t)≤t.size+1:=by
 unfold iR0 yN0;rw [pH0];have h1:=yM0 t.data.toList;have h2:t.data.toList.length=t.size:=Array.length_toList;omega
theorem vB0:∀l:List ByteArray,l.length≤eF0 l
 | []=>lR7
 | x::l=>by have:=vB0 l;simp only [eF0,List.length_cons];omega
theorem qI1 (d:Nat) (l:List Int) (H:DsS) (hl:l.length≤10000) (h:H.rs.length≤10000):(aX0 d l H).2.rs.length≤10000:=by
 unfold aX0;split
 ·show (dG0 l).length≤10000;rw [iO0];omega
 ·exact h
 ·exact h
 ·split
  ·exact h
  ·exact h
 ·exact h
 ·exact Nat.zero_le _
 ·exact h
 ·split
  ·exact h
  ·exact h
theorem qJ1 (s:ByteArray) (H:DsS) (hs:s.size≤9000) (h:H.rs.length≤10000):(dH0 s H).2.rs.length≤10000:=by
 have hw:=uZ0 s;unfold dH0;split
 ·exact h
 ·rename_i w ws e;rw [e] at hw;simp only [List.length_cons] at hw;split
  ·exact h
  ·split
   ·exact h
   ·split
    ·exact h
    ·rename_i l hl;split
     ·exact h
     ·exact qI1 _ l H (by rw [hE0 ws hl];omega) h
theorem hX1 (l:List UInt8):Lib.byteCells l++[.int .u8 10]=Lib.byteCells (l++[10]):=by simp [Lib.byteCells]
theorem hY1 {w W W':World} {S O mb db lo n ra da:Nat} {x:DsK} {H:DsS} {l:List UInt8} {r:Loop} {ds:Option (List Deferred)} (hI:DsIs W lo S x H n) (hb:BdIs O O (Lib.byteCells l) W) (hE:BdE W O (Lib.byteCells l)) (hO:O<lo) (hd:cJ0 W mb S) (hm:mb≠O) (hdv:W.heap[db]? = some (.cells #[.map (some mb)] 37 (0,0)))
  (hv:DsVars W) (hbl:Below w.heap.size w W) (hr:W.heap[ra]? = some (.loop r)∧W.heap[da]? = some (.deferred ds)) (hdo:db≠O) (hro:ra≠O) (hda:da≠O) (ho:Out (BdW W O) W W') (hN:12≤w.heap.size) (hw:w.heap.size≤O):
  DsIs W' lo S x H n∧cJ0 W' mb S∧W'.heap[db]? = some (.cells #[.map (some mb)] 37 (0,0))∧DsVars W'∧Below w.heap.size w W'∧W'.heap[ra]? = some (.loop r)∧W'.heap[da]? = some (.deferred ds):=by
 have hB:Below w.heap.size W W':=ho.below (fun j hj=>by have:=qE1 hb hj;omega) hbl.size;refine ⟨hI.bdw hb hE hO ho,hd.same (ho.block _ hd.lt (sK0 hb hE hm fun c f e=>absurd rfl (hd.neB e))),aE0 hdv ho (sK0 hb hE hdo fun c f e=>?_),hv.below (hB.mono hN) lR7,hbl.trans hB,aE0 hr.1 ho (sK0 hb hE hro fun c f e=>by rw [hr.1] at e;cases e),aE0 hr.2 ho (sK0 hb hE hda fun c f e=>by rw [hr.2] at e;cases e)⟩;rw [hdv] at e;injection e with e;injection e with _ e _;exact absurd e (by decide)
set_option maxRecDepth 100000 in
set_option maxHeartbeats 4000000 in
theorem pI0 (t:ByteArray) (ht:t.size≤4000) (w:World) (hv:DsVars w) (hB:12≤w.heap.size):
  Calls Tryz.prog 5 #[.string t] w fun e w'=>e=.returned (.string (baOf (oK0 t.data.toList)))∧Below w.heap.size w w':=by
 refine (callsIn_wide (n:=4)).1 ?_;refine callsIn_of_wp_marks Tryz.func5 rfl trivial ?_ rfl;simp only [Tryz.ntmps5,List.size_toArray,List.length_cons,List.length_nil,Nat.reduceAdd,Nat.reduceSub,Array.replicate_succ,Array.replicate_zero,List.push_toArray,List.append_toArray,List.nil_append,List.cons_append];have h0:¬(20000:Int)<(t.size:Int):=by omega
 have HV:Hid (DsVars w):=hv;clear hv
 gi_wp2_with fail
 have hx1:=heap_alloc_new w (.cells #[.slice none 0 0,.int .i64 0,.int .i64 0,.int .i64 0,.int .i64 0,.int .i64 0,.pointer none] 32);have hb1:=bel1 w (.cells #[.slice none 0 0,.int .i64 0,.int .i64 0,.int .i64 0,.int .i64 0,.int .i64 0,.pointer none] 32);have hs1:(w.alloc (.cells #[.slice none 0 0,.int .i64 0,.int .i64 0,.int .i64 0,.int .i64 0,.int .i64 0,.pointer none] 32)).heap.size=w.heap.size+1:=by simp
 generalize w.alloc (.cells #[.slice none 0 0,.int .i64 0,.int .i64 0,.int .i64 0,.int .i64 0,.int .i64 0,.pointer none] 32)=w1 at hx1 hb1 hs1 ⊢;have hx2:=heap_alloc_new w1 (.cells #[.pointer none,.slice none 0 0] 36);have hb2:=bel1 w1 (.cells #[.pointer none,.slice none 0 0] 36);have hs2:(w1.alloc (.cells #[.pointer none,.slice none 0 0] 36)).heap.size=w.heap.size+2:=by simp [hs1]
 generalize w1.alloc (.cells #[.pointer none,.slice none 0 0] 36)=w2 at hx2 hb2 hs2 ⊢;rw [hs1] at hx2;refine ⟨trivial,?_⟩;refine (callsIn_wide.2 (oW1 w.heap.size w2)).mono ?_;rintro e w3 ⟨rfl,hd,hb3⟩;rw [hs2] at hd ⊢
 gi_wp2_with fail
 refine ⟨trivial,?_⟩;refine (callsIn_wide.2 (qA1 t _)).mono ?_;rintro e w4 ⟨rfl,rfl⟩
 gi_wp2_with fail
 have hx4:=heap_alloc_new w3 (.cells #[.map (some (w.heap.size+2))] 37);have hb4:=bel1 w3 (.cells #[.map (some (w.heap.size+2))] 37);have hs4:(w3.alloc (.cells #[.map (some (w.heap.size+2))] 37)).heap.size=w3.heap.size+1:=by simp
 generalize w3.alloc (.cells #[.map (some (w.heap.size+2))] 37)=w4 at hx4 hb4 hs4 ⊢;have hx5:=heap_alloc_new w4 (.cells #[.string t] 9);have hb5:=bel1 w4 (.cells #[.string t] 9);have hs5:(w4.alloc (.cells #[.string t] 9)).heap.size=w3.heap.size+2:=by simp [hs4]
 generalize w4.alloc (.cells #[.string t] 9)=w5 at hx5 hb5 hs5 ⊢;rw [hs4] at hx5;have hz3:w.heap.size+3≤w3.heap.size:=by have:=hd.lt;omega
 have HBW:Hid (Below w.heap.size w w5):=aC0 hb1 (aC0 hb2 (aC0 hb3 (aC0 hb4 hb5)));have HBT:Hid (w5.cell? ⟨w3.heap.size+1,0,none⟩=some (.string t)):=aA0 (j:=0) hx5 rfl
 have HSE:Hid (∀W1,Below w5.heap.size w5 W1→W1.heap.size=w5.heap.size+2→SeIs w w.heap.size (w.heap.size+1) (w.heap.size+2) w3.heap.size (w5.heap.size+2) [] W1):=fun W1 hq hsz=>by
  have g5:=aC0 hb5 hq;have g4:=aC0 hb4 g5;have g3:=aC0 hb3 g4;have g2:=aC0 hb2 g3;have g1:=aC0 hb1 g2
  refine ⟨⟨⟨none,0,0,⟨0,0,0,0,0,0,⟨0,0,0,.nilIface,.nilIface,.nilIface,.nilIface,[],[],fun _=>[]⟩,.nilIface,0,0⟩⟩,0,⟨aD0 hx1 g2 lR7,⟨by omega,by omega⟩,fun h=>absurd h (Nat.lt_irrefl 0),fun M e=>by cases e⟩,Nat.zero_le _⟩,
   Or.inl ⟨lR7,_,aD0 hx2 g3 lR7,World.ownsRowF_of (World.ownsRow_nil _ _ _ _),by simp [Value.ownBlock]⟩,fun _=>⟨_,aD0 hx2 g3 lR7⟩,hd.same (g4.block _ hd.lt),aD0 hx4 g5 lR7,HV.out.below g1 hB,g1,Nat.zero_le _,Nat.zero_le _⟩
 have hs5a:w3.heap.size+2≤w5.heap.size:=Nat.le_of_eq hs5.symm;have hs5b:w5.heap.size≤w3.heap.size+2:=Nat.le_of_eq hs5;clear hs5 hx1 hb1 hs1 hx2 hb2 hs2 hd hb3 hx4 hb4 hs4 hx5 hb5
 refine bR1 (n:=4) (by decide) (gf:=37) (lb:=#[.pointer (some ⟨w3.heap.size+1,0,none⟩)]) rfl (enters_of Tryz.func37 (by kernel_rfl) rfl) rfl (iR0 t) (SeIs w w.heap.size (w.heap.size+1) (w.heap.size+2) w3.heap.size (w5.heap.size+2))
  (fun J hJ hY W1 hW1 h0=>qC1 3 (by decide) _ _ t (by omega) J hJ hY W1 h0 ((hW1.cell (World.block_lt_of_cell? w5 _ HBT.out)).trans HBT.out))
  (fun pre W W' h hb=>h.below hb hB)
  (fun pre W r r' h hl=>h.put hl (by omega) (by omega) (by omega) hB)
  HSE.out
  (fun x=>{ tmps:=#[.string t,undef,.string ⟨#[]⟩,.pointer (some ⟨w.heap.size,0,none⟩),.pointer (some ⟨w.heap.size+1,0,none⟩),.pointer (some ⟨w3.heap.size,0,none⟩),.string x,.string t,.int .i64 t.size,.bool false,undef,undef,undef,.map (some (w.heap.size+2)),.string t,.func (.func 37) #[] #[.pointer (some ⟨w3.heap.size+1,0,none⟩)],.string x,undef,undef,undef,undef,undef,undef],defers:=[] })
  ?assign ?body ?done
 case assign=>
  intro x W K hK
  gi_wp2
  exact hK
 case body=>
  rintro pre x rest W hI hpre ⟨r,hr⟩ hk;obtain ⟨x0,n,hIs,hn4⟩:=hI.is;have hby:=xI0 t;rw [hpre,lZ0] at hby;simp only [eF0] at hby;have hpl:=vB0 pre;have HLN:Hid (eF0 pre+x.size+1≤4001∧pre.length≤4001):=⟨by omega,by omega⟩;have hxs:x.size≤4000:=by omega
  have hn:n≤1900:=by omega
  have HI:Hid (SeIs w w.heap.size (w.heap.size+1) (w.heap.size+2) w3.heap.size (w5.heap.size+2) pre W):=hI;have HIS:Hid (DsIs W (w5.heap.size+2) w.heap.size x0 (gV0 pre DsS.zero) n):=hIs;have HR:Hid (W.heap[w5.heap.size+1]? = some (.loop r)∧W.heap[w5.heap.size]? = some (.deferred (some []))):=⟨hr,hk⟩;have HAN:Hid _:=lT1 x (w5.heap.size+2) w.heap.size (w.heap.size+2) n x0 (gV0 pre DsS.zero) W hIs hI.de hI.rl hxs hI.va (by omega) hB hn;have HAL:Hid ((ansT (dH0 x (gV0 pre DsS.zero)).1).length≤30000):=qH1 hIs hn x;have HN4:Hid (4*n≤eF0 pre):=hn4;have cD:=aA0 (j:=0) hI.dv rfl;clear hIs hI hby hpre hpl hn4 hr hk
  gi_wp2_with fail
  refine ⟨trivial,?_⟩;refine (CallsIn.inRound _ (callsIn_wide.2 HAN.out)).mono ?_;clear HAN;rintro e W2 ⟨rfl,hO2,x2,n2,hI2,hn2⟩
  have HSB:Hid (∀c f,W.heap[w.heap.size]?≠some (.cells c 5 f)):=fun c f e=>by
   rw [HIS.out.box] at e;injection e with e;injection e with _ e _;exact absurd e (by decide)
  have HB2:Hid (BdIs (w.heap.size+1) (w.heap.size+1) (Lib.byteCells (fZ0 pre DsS.zero)) W2):=qD1 HI.out.bd (by omega) (by omega) HSB.out hO2;have HE2:Hid (BdE W2 (w.heap.size+1) (Lib.byteCells (fZ0 pre DsS.zero))):=lX1 HI.out.be (by omega) (by omega) hO2;have hlow:∀j,j<w5.heap.size+2→j≠w.heap.size→¬DsW W (w5.heap.size+2) w.heap.size j:=fun j h1 h2 e=>e.elim h2 (fun e=>by have:=e.1;omega)
  have HD2:Hid (cJ0 W2 (w.heap.size+2) w.heap.size):=HI.out.de.same (hO2.block _ HI.out.de.lt (hlow _ (by omega) (by omega)));have HDV2:Hid _:=aE0 HI.out.dv hO2 (hlow _ (by omega) (by omega));have HV2:Hid (DsVars W2):=HI.out.va.outW hO2 (by omega) hB (Nat.le_trans hB HI.out.bl.size);have HBL2:Hid (Below w.heap.size w W2):=HI.out.bl.trans (hO2.below (fun j hj=>hj.elim (fun e=>by omega) (fun e=>by have:=e.1;omega)) HI.out.bl.size);have HR2:Hid (W2.heap[w5.heap.size+1]? = some (.loop r)∧W2.heap[w5.heap.size]? = some (.deferred (some []))):=⟨(hO2.block _ (lt_of_block HR.out.1) (hlow _ (by omega) (by omega))).trans HR.out.1,(hO2.block _ (lt_of_block HR.out.2) (hlow _ (by omega) (by omega))).trans HR.out.2⟩;have HI2:Hid (DsIs W2 (w5.heap.size+2) w.heap.size x2 (dH0 x (gV0 pre DsS.zero)).2 n2∧4*n2≤eF0 pre+x.size+1):=⟨hI2,by have:=HN4.out;omega⟩;clear hO2 hI2 hn2 hlow cD
  gi_wp2_with fail
  refine ⟨trivial,?_⟩;refine (CallsIn.inRound _ (callsIn_wide.2 (lU1 (w.heap.size+1) (w.heap.size+1) _ _ W2 HB2.out ?hlen ?hbw))).mono ?_
  case hlen=>
   have h1:=HI.out.ln;have h2:=HAL.out;have h3:=HLN.out.2;rw [Lib.byteCells_length];show _+(ansT (dH0 x (gV0 pre DsS.zero)).1).length≤_;have:30001*pre.length≤30001*4001:=Nat.mul_le_mul_left _ h3;omega
  case hbw=>
   have:=lt_of_block HR2.out.1;omega
  rintro e W3 ⟨rfl,hb3,hO3,hE3⟩;rw [show Lib.byteCells (fZ0 pre DsS.zero)++Lib.strCells (baOf (ansT (dH0 x (gV0 pre DsS.zero)).1))=Lib.byteCells (fZ0 pre DsS.zero++ansT (dH0 x (gV0 pre DsS.zero)).1) from (List.map_append ..).symm] at hb3 hE3;have HE3:Hid (BdE W3 (w.heap.size+1) (Lib.byteCells (fZ0 pre DsS.zero++ansT (dH0 x (gV0 pre DsS.zero)).1))):=hE3 HE2.out;have HB3:Hid (BdIs (w.heap.size+1) (w.heap.size+1) (Lib.byteCells (fZ0 pre DsS.zero++ansT (dH0 x (gV0 pre DsS.zero)).1)) W3):=Or.inr hb3;have HK3:Hid _:=hY1 HI2.out.1 HB2.out HE2.out (by omega) HD2.out (by omega) HDV2.out HV2.out HBL2.out HR2.out (by omega) (by omega) (by omega) hO3 hB (by omega);clear hb3 hO3 hE3
  gi_wp2_with fail
  refine ⟨trivial,?_⟩;refine (CallsIn.inRound _ (callsIn_wide.2 (lV1 (w.heap.size+1) (w.heap.size+1) _ 10 W3 HB3.out ?hlen2 ?hbw2))).mono ?_
  case hlen2=>
   have h1:=HI.out.ln;have h2:=HAL.out;have h3:=HLN.out.2;rw [Lib.byteCells_length,List.length_append];have:30001*pre.length≤30001*4001:=Nat.mul_le_mul_left _ h3;omega
  case hbw2=>
   have:=HK3.out.2.2.2.2.1.size;have:=lt_of_block HK3.out.2.2.2.2.2.1;omega
  rintro e W4 ⟨rfl,hb4,hO4⟩;rw [hX1] at hb4;have HB4:Hid _:=hb4;have HK4:Hid _:=hY1 HK3.out.1 HB3.out HE3.out (by omega) HK3.out.2.1 (by omega) HK3.out.2.2.1 HK3.out.2.2.2.1 HK3.out.2.2.2.2.1 HK3.out.2.2.2.2.2 (by omega) (by omega) (by omega) hO4 hB (by omega);clear hb4 hO4
  gi_wp2_with fail
  have hsL:fZ0 (pre++[x]) DsS.zero=fZ0 pre DsS.zero++ansT (dH0 x (gV0 pre DsS.zero)).1++[10]:=by
   rw [iL0];simp [fZ0]
  have hsH:gV0 (pre++[x]) DsS.zero=(dH0 x (gV0 pre DsS.zero)).2:=by
   rw [mG0];rfl
  refine ⟨⟨⟨x2,n2,?_,?_⟩,?_,?_,HK4.out.2.1,HK4.out.2.2.1,HK4.out.2.2.2.1,HK4.out.2.2.2.2.1,?_,?_⟩,?_,?_⟩
  ·rw [hsH];exact HK4.out.1
  ·rw [lZ0];simp only [eF0];have:=HI2.out.2;omega
  ·rw [hsL];exact Or.inr HB4.out
  ·rw [hsL];exact fun e=>absurd e (by simp [Lib.byteCells])
  ·rw [hsH];exact qJ1 x _ (by omega) HI.out.rl
  ·rw [hsL];have h1:=HI.out.ln;have h2:=HAL.out;simp only [List.length_append,List.length_singleton];omega
  ·rw [HK4.out.2.2.2.2.2.1,HR.out.1]
  ·rw [HK4.out.2.2.2.2.2.2,HR.out.2]
 case done=>
  intro W hI hK
  gi_wp2_with fail
  refine ⟨trivial,?_⟩;refine (callsIn_wide.2 (Any.Builder_String_any_k (ρ:=ds_lays169_ren) zK0 jC0 (w.heap.size+1) (w.heap.size+1) (fZ0 (iR0 t) DsS.zero) W hI.bd (by have:=lt_of_block hK;omega))).mono ?_;rintro e W2 ⟨rfl,_,hb2,hk2⟩;have HK2:Hid (W2.heap[w5.heap.size]? = some (.deferred (some []))):=hk2 _ _ hK (fun e=>by injection e with e;omega) (fun c fz e=>by cases e);have HB2:Hid (Below w.heap.size w W2):=hI.bl.trans (hb2.mono (by omega));clear hI hK hb2 hk2
  gi_wp2
  have hsT:oK0 t.data.toList=fZ0 (iR0 t) DsS.zero:=by
   unfold oK0;have h2:t.data.toList.length=t.size:=Array.length_toList;rw [if_neg (by omega)];rfl
  refine ⟨by simp,.inl ⟨_,_,rfl,run_takeDeferred HK2.out,?_⟩⟩;refine ⟨_,results_tmp rfl _ _ _,?_⟩;rw [hsT];exact ⟨rfl,HB2.out.trans ((hV1 w5.heap.size (.deferred none) W2).below (fun j hj=>by omega) HB2.out.size)⟩
end Go.Proofs.YtaelphbianmckaaGreatDoor
namespace Go.Proofs.YtaelphbianmckaaGreatDoor
open Go.RowKit Go.Shelf
theorem hZ1:oK0 [98,97,110,100,32,53,48,32,49,48,48,48,10,120,10]=[52,53,32,53,53,10,101,114,114,111,114,32,51,10]:=by decide +kernel
theorem nG1 (a:ByteArray):(a++⟨#[10]⟩:ByteArray).data.toList=a.data.toList++[10]:=by
 rw [ByteArray.data_append,Array.toList_append]
theorem sR1 (a b:ByteArray):(a++⟨#[10]⟩++b:ByteArray).data.toList=a.data.toList++[10]++b.data.toList:=by
 rw [ByteArray.data_append,Array.toList_append,nG1]
theorem sS1 {a:ByteArray} (h:a.size≤3000):(a++⟨#[10]⟩:ByteArray).size≤4000:=by
 rw [ByteArray.size_append];have:(⟨#[10]⟩:ByteArray).size=1:=rfl;omega
theorem sT1 {a b:ByteArray} (h:a.size+b.size≤3000):(a++⟨#[10]⟩++b:ByteArray).size≤4000:=by
 rw [ByteArray.size_append,ByteArray.size_append];have:(⟨#[10]⟩:ByteArray).size=1:=rfl;omega
theorem xJ0 {a b:ByteArray} (hs:a.size+b.size≤2500):∃r,oK0 (a++⟨#[10]⟩++b:ByteArray).data.toList=oK0 (a++⟨#[10]⟩:ByteArray).data.toList++r:=by
 rw [nG1,sR1];refine wI0 _ _ ?_;have e1:a.data.toList.length=a.size:=Array.length_toList;have e2:b.data.toList.length=b.size:=Array.length_toList;simp only [List.length_append,List.length_singleton];omega
set_option maxRecDepth 8000 in
set_option maxHeartbeats 2000000 in
theorem xK0 (a b:ByteArray) (w:World) (hv:DsVars w) (hB:12≤w.heap.size) (hs:a.size+b.size≤2500):
  Calls Tryz.prog 3 #[.string a,.string b] w fun e w'=>e=.returned (.bool true)∧Below w.heap.size w w':=by
 have HV:Hid (DsVars w):=hv;clear hv;have k1:¬((a.size:Int)+(b.size:Int)>2500):=by omega
 go_enter Tryz.func3,Tryz.ntmps3;go_wp2_with fail;refine (pI0 ⟨#[98,97,110,100,32,53,48,32,49,48,48,48,10,120,10]⟩ (by decide) w HV.out hB).mono ?_;rintro e w1 ⟨rfl,hb1⟩;rw [show oK0 (⟨#[98,97,110,100,32,53,48,32,49,48,48,48,10,120,10]⟩:ByteArray).data.toList=[52,53,32,53,53,10,101,114,114,111,114,32,51,10] from hZ1];have HB1:Hid (Below w.heap.size w w1):=hb1;have HV1:Hid (DsVars w1):=HV.out.below hb1 hB;clear hb1;unfold baOf;have HSX:Hid ((a++⟨#[10]⟩:ByteArray).size≤4000):=sS1 (by omega);have HSY:Hid ((a++⟨#[10]⟩++b:ByteArray).size≤4000):=sT1 (by omega);obtain ⟨r,hr⟩:=xJ0 hs;have HR:Hid _:=hr;clear hr;go_wp2_with fail;refine (pI0 _ ?sx w1 HV1.out (Nat.le_trans hB HB1.out.size)).mono ?_
 case sx=>exact HSX.out
 rintro e w2 ⟨rfl,hb2⟩;have HB2:Hid (Below w.heap.size w w2):=aC0 HB1.out hb2;have HV2:Hid (DsVars w2):=HV.out.below HB2.out hB;clear hb2;generalize oK0 (a++⟨#[10]⟩:ByteArray).data.toList=X at HR ⊢;go_wp2_with fail;refine (pI0 _ ?sy w2 HV2.out (Nat.le_trans hB HB2.out.size)).mono ?_
 case sy=>exact HSY.out
 rintro e w3 ⟨rfl,hb3⟩;have HB3:Hid (Below w.heap.size w w3):=aC0 HB2.out hb3;rw [HR.out];clear hb3 HR;have q1:(baOf X).size≤(baOf (X++r)).size:=by rw [sF0,sF0,List.length_append];omega
 have q2:(baOf (X++r)).extract 0 (baOf X).size=baOf X:=by
  rw [hQ1,sF0,show (baOf (X++r)).data.toList=X++r from rfl,List.take_left'];rfl
 generalize baOf (X++r)=y at q1 q2 ⊢;generalize baOf X=z at q1 q2 ⊢;have q3:((z.size:Int)≤(y.size:Int)):=by omega
 go_wp2_with fail;go_ret;exact ⟨rfl,HB3.out⟩
set_option maxHeartbeats 1000000 in
theorem xL0 (a b:ByteArray) (w:World) (ha:a.size≤4611686018427387903) (hb:b.size≤4611686018427387903) (hs:¬a.size+b.size≤2500):
  Calls Tryz.prog 3 #[.string a,.string b] w fun e w'=>e=.returned (.bool true)∧Below w.heap.size w w':=by
 have k1:((a.size:Int)+(b.size:Int)>2500):=by omega
 have k2:IntKind.i64.wrap ((a.size:Int)+(b.size:Int))=(a.size:Int)+(b.size:Int):=IntWalk.i64_in _ (by omega);go_enter Tryz.func3,Tryz.ntmps3;go_wp2_with fail;go_ret;exact ⟨rfl,Below.refl _ _⟩
end Go.Proofs.YtaelphbianmckaaGreatDoor
namespace Go.Proofs.YtaelphbianmckaaGreatDoor
open Go.RowKit
theorem Tryz.own:ownKnob Tryz.prog.godebug=none:=by kernel_rfl
theorem Tryz.et:Tryz.prog.globalNamed "errors.errorType" = some 6:=by kernel_rfl
def sU1:String:=match (Rows.laid_errors_errorType:DataW Unit) with | .iface n _=>n | _=>default
theorem Tryz.rt:(Tryz.prog.cutTypes.find? (·.1 == sU1)).map (·.2)=some 289:=by kernel_rfl
theorem Tryz.oneRow:((List.range 406).filter fun t=>Tryz.prog.rowNamed t [101,114,114,111,114])=[43]:=by kernel_rfl
theorem Tryz.size:Tryz.prog.types.size=406:=by kernel_rfl
def nB0:List (String×DataW Unit):=[("errors.errorType",Rows.laid_errors_errorType)]
theorem vC0 {W:World} (h:laidMetH Tryz.prog nB0 W):ErrT W:=by
 have h':laidMet Tryz.prog [] W∧handlesMet Tryz.prog nB0 W:=h;obtain ⟨name,u,ty,e1,e2,e3,e4,e5⟩:=h'.2 _ (List.mem_singleton.2 rfl);have en:name=[101,114,114,111,114]:=(Option.some.inj e1).symm;subst en;obtain rfl:=Option.some.inj (Tryz.rt.symm.trans e2);have hm:ty∈(List.range 406).filter fun t=>Tryz.prog.rowNamed t [101,114,114,111,114]:=List.mem_filter.2 ⟨List.mem_range.2 (by rw [←Tryz.size];exact e3),e4⟩
 rw [Tryz.oneRow] at hm;obtain rfl:=List.mem_singleton.1 hm;have hh:typeHandle Tryz.prog 43=.pointer (some ⟨12,43,none⟩):=by kernel_rfl
 rw [hh] at e5
 simpa [ErrT] using World.var?_cell Tryz.et e5 0
def mA1 (w:World):World:={ w with heap:=w.heap.modify 6 fun
 | .cells _ t frozen=>.cells #[.iface 289 (.agg #[.pointer (some ⟨12,43,none⟩)])] t frozen
 | o=>o }
end Go.Proofs.YtaelphbianmckaaGreatDoor
namespace Go.Proofs.YtaelphbianmckaaGreatDoor
open Go.RowKit Go.Shelf
theorem Tryz.gPow:Tryz.prog.globalNamed "internal/strconv.uint64pow10" = some 5:=by kernel_rfl
theorem Tryz.gRan:Tryz.prog.globalNamed "strconv.ErrRange" = some 4:=by kernel_rfl
theorem Tryz.gSyn:Tryz.prog.globalNamed "strconv.ErrSyntax" = some 3:=by kernel_rfl
theorem Tryz.tPow:(Tryz.prog.globals[5]?).map (·.type)=some 271:=by kernel_rfl
theorem Tryz.tRan:(Tryz.prog.globals[4]?).map (·.type)=some 43:=by kernel_rfl
theorem Tryz.tSyn:(Tryz.prog.globals[3]?).map (·.type)=some 43:=by kernel_rfl
theorem iA1 {w:World} (h:w.var? Tryz.prog "internal/strconv.uint64pow10" = some (Lib.pow10Tab.map fun z=>Value.int .u64 z).toArray):eZ0 w:=by
 unfold World.var? at h;rw [Tryz.gPow] at h;simp only [Option.bind_some] at h;split at h
 ·rename_i cs t f e;cases h;exact ⟨t,f,e⟩
 ·cases h
theorem iB1 {w:World} {name:String} {g:Nat} {t:TypeId} {ms:Array (String×TypeId)} {cs:Array Value} {fuel:Nat} {d:DataW Unit} {nm:String} {p:List MemPlace} (hg:Tryz.prog.globalNamed name=some g) (ht:Tryz.prog.underlying t=some (.interface ms)) (hv:w.var? Tryz.prog name=some cs)
  (hd:DataW.trod (fun _=>()) Tryz.prog w 0 (fun _=>true) false fuel t cs.toList=some (.iface nm d,p)):ErrV w g:=by
 obtain ⟨_,u,v,e,_,_⟩:=iface_of_trod ht hd;have hc:=World.var?_cell hg hv 0
 have e0:cs[0]? = some (.iface u v):=by
  have:cs.toList[0]? = some (.iface u v):=by rw [e];rfl
  simpa using this
 exact ⟨_,hc.trans e0,Or.inr ⟨u,v,rfl⟩⟩
def tQ1:List (String×DataW Unit):=[("math/bits.deBruijn32tab",Rows.laid_math_bits_deBruijn32tab),("math/bits.deBruijn64tab",Rows.laid_math_bits_deBruijn64tab),("internal/strconv.uint64pow10",Rows.laid_internal_strconv_uint64pow10),("strconv.ErrRange",Rows.laid_strconv_ErrRange),("strconv.ErrSyntax",Rows.laid_strconv_ErrSyntax)]
theorem mB1:(Rows.laid_internal_strconv_uint64pow10:DataW Unit)=Lib.tabData .u64 Lib.pow10Tab:=by rfl
theorem vD0 {W:World} (h:laidMetH Tryz.prog Rows.deskPiecesRow.laid W):DsVars W:=by
 have h':laidMet Tryz.prog tQ1 W∧handlesMet Tryz.prog nB0 W:=h;obtain ⟨ps,hv,_⟩:=h'.1;obtain ⟨g1,t1,c1,f1,p1,q1,_,_,_,_,hv,_⟩:=hv;obtain ⟨g2,t2,c2,f2,p2,q2,_,_,_,_,hv,_⟩:=hv;obtain ⟨g3,t3,c3,f3,p3,q3,e3,ty3,v3,d3,hv,_⟩:=hv;obtain ⟨g4,t4,c4,f4,p4,q4,e4,ty4,v4,d4,hv,_⟩:=hv;obtain ⟨g5,t5,c5,f5,p5,q5,e5,ty5,v5,d5,hv,_⟩:=hv;obtain rfl:=Option.some.inj (Tryz.gPow.symm.trans e3);obtain rfl:=Option.some.inj (Tryz.gRan.symm.trans e4);obtain rfl:=Option.some.inj (Tryz.gSyn.symm.trans e5);obtain rfl:=Option.some.inj (Tryz.tPow.symm.trans ty3);obtain rfl:=Option.some.inj (Tryz.tRan.symm.trans ty4);obtain rfl:=Option.some.inj (Tryz.tSyn.symm.trans ty5);have hl:laidMet Tryz.prog [] W∧handlesMet Tryz.prog nB0 W:=⟨⟨[],rfl,List.nodup_nil,fun _ _ h=>by cases h⟩,h'.2⟩;refine ⟨vC0 hl,iA1 ?_,iB1 Tryz.gSyn Tryz.underlying43 v5 d5,iB1 Tryz.gRan Tryz.underlying43 v4 d4⟩;rw [mB1] at d3;rw [v3,←Lib.cells_of_tab Tryz.underlying271 Tryz.underlying185 (by kernel_rfl) (by kernel_rfl) d3]
end Go.Proofs.YtaelphbianmckaaGreatDoor
