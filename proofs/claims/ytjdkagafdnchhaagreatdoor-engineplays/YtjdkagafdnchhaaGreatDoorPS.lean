/- A part of the proof of EnginePlays. -/
import Derived.Test.YtjdkagafdnchhaaGreatDoorPA
import Derived.Test.YtjdkagafdnchhaaGreatDoorPR
import Derived.Test.YtjdkagafdnchhaaGreatDoorPM
import Derived.Maps.OwnSet
import Derived.Maps.RangeWalk
import Derived.Lib.SlKeysI
import Derived.Shelf.Sort.Plain
import Derived.Shelf.Slices.In.SortNone2
import Derived.Test.YtjdkagafdnchhaaGreatDoorRows
import Derived.Shelf.SlIterI.Sorted
import Derived.ProofKit
import Derived.OpenShut
import Derived.Deep.Fields
import Derived.Deep.RegionWith
import Derived.Deep.CutRange
namespace Go.Proofs.YtjdkagafdnchhaaGreatDoor
open Go.RowKit
theorem Tryz.cu_keyInt:Maps.Keyed Tryz.prog 3:=Maps.int_keyed Tryz.underlying3
theorem Tryz.cu_keyIs {a:Int} (h:(Lit.int .i64 a).wf=true):keyOf Tryz.prog 3 (.int .i64 a)=some (.int .i64 a):=Maps.keyOf_int_mk Tryz.underlying3 h
theorem Tryz.zeroLots (w:World):(zeroValue 193).run Tryz.prog w=.ok (.agg #[.int .i64 0,.int .i64 0]) w:=by kernel_rfl
def lotR (v:Value):Option (DataW Unit×List MemPlace):=
 match v with
 | .agg ⟨[.int .i64 a,.int .i64 b]⟩=>some (.agg [.lit (.int .i64 a),.lit (.int .i64 b)],[])
 | _=>none
def lotE (a b:Int):DataW Unit:=.agg [.lit (.int .i64 a),.lit (.int .i64 b)]
theorem xW0 (a b:Int):lotR (.agg #[.int .i64 a,.int .i64 b])=some (lotE a b,[]):=rfl
theorem rG0 {v:Value} {y:DataW Unit×List MemPlace} (h:lotR v=some y):∃a b:Int,v=.agg #[.int .i64 a,.int .i64 b]∧y=(lotE a b,[]):=by
 unfold lotR at h;split at h
 ·rename_i a b;exact ⟨a,b,rfl,by simpa [lotE] using h.symm⟩
 ·cases h
theorem aF1 {a b a' b':Int} (h:lotE a b=lotE a' b'):a=a'∧b=b':=by simpa [lotE] using h
theorem lB1 {v:Value} {a b:Int} {ps:List MemPlace} (h:lotR v=some (lotE a b,ps)):v=.agg #[.int .i64 a,.int .i64 b]:=by
 obtain ⟨a',b',rfl,e⟩:=rG0 h;obtain ⟨rfl,rfl⟩:=aF1 (Prod.mk.injEq .. ▸ e:lotE a b=lotE a' b'∧ps=[]).1;rfl
def LotD (D:DataW Unit) (l:List Ord) (more:Int):Prop:=
 (∀p,D.atKey (.int .i64 p) (lotE 0 0)=lotE (sumQ (cY0 p) l) (sumQ (eB0 p) l))∧∀p,Maps.has D (.int .i64 p)=true↔p∈bA0 l more
theorem sR0 (a:Int):WideAt.IsKeyLit (Lit.int .i64 a):=trivial
theorem aG1 {a b:Int} (h:a≠b):(Lit.int .i64 a)≠Lit.int .i64 b:=fun e=>h (by injection e)
theorem LotD.start {more:Int} (h:¬0<more):LotD (.map []) [] more:=by
 refine ⟨fun p=>rfl,fun p=>?_⟩;rw [cU0];constructor
 ·intro e;cases e
 ·rintro (⟨h1,_⟩ | ⟨o,ho,_⟩)
  ·exact absurd h1 h
  ·cases ho
theorem LotD.more {more:Int} (h:0<more):LotD ((DataW.map []).put (.int .i64 more) (lotE 0 0)) [] more:=by
 refine ⟨fun p=>?_,fun p=>?_⟩
 ·by_cases e:p=more
  ·subst e;exact Maps.atKey_put_same ⟨_,rfl⟩ (sR0 _) _ _
  ·rw [Maps.atKey_put_other (aG1 e)];rfl
 ·rw [cU0]
  by_cases e:p=more
  ·subst e;rw [Maps.has_put_same ⟨_,rfl⟩ (sR0 _)];simp [h]
  ·rw [Maps.has_put_other (aG1 e)];constructor
   ·intro e';cases e'
   ·rintro (⟨_,h1⟩ | ⟨o,ho,_⟩)
    ·exact absurd h1 e
    ·cases ho
theorem iC0 (q:Ord→Bool) (l:List Ord) (o:Ord):sumQ q (l++[o])=sumQ q l+(if q o=true then o.qty else 0):=by
 unfold sumQ;rw [List.map_append,List.map_singleton,kX0]
theorem mU0 {l:List Ord} {more:Int} {o:Ord} {p:Int}:p∈bA0 (l++[o]) more↔(p∈bA0 l more∨(cZ0 o=true∧o.price=p)):=by
 rw [cU0,cU0];constructor
 ·rintro (h | ⟨x,hx,h1,h2⟩)
  ·exact Or.inl (Or.inl h)
  ·rw [List.mem_append,List.mem_singleton] at hx;rcases hx with hx | rfl
   ·exact Or.inl (Or.inr ⟨x,hx,h1,h2⟩)
   ·exact Or.inr ⟨h1,h2⟩
 ·rintro ((h | ⟨x,hx,h1,h2⟩) | ⟨h1,h2⟩)
  ·exact Or.inl h
  ·exact Or.inr ⟨x,by simp [hx],h1,h2⟩
  ·exact Or.inr ⟨o,by simp,h1,h2⟩
theorem LotD.same {D:DataW Unit} {l:List Ord} {more:Int} {o:Ord} (h:LotD D l more) (hk:o.kind=2):LotD D (l++[o]) more:=by
 have hn:cZ0 o=false:=by unfold cZ0;simp [hk]
 refine ⟨fun p=>?_,fun p=>?_⟩
 ·have e1:cY0 p o=false:=by unfold cY0;simp [hk]
  have e2:eB0 p o=false:=by unfold eB0;simp [hk]
  rw [h.1 p,iC0,iC0,e1,e2];simp
 ·rw [h.2 p,mU0,hn];simp
theorem LotD.put {D:DataW Unit} {l:List Ord} {more:Int} {o:Ord} (h:LotD D l more) (hD:Maps.IsMap D) (hn:cZ0 o=true):
  LotD (D.put (.int .i64 o.price) (lotE (sumQ (cY0 o.price) (l++[o])) (sumQ (eB0 o.price) (l++[o])))) (l++[o]) more:=by
 refine ⟨fun p=>?_,fun p=>?_⟩
 ·by_cases e:p=o.price
  ·subst e;exact Maps.atKey_put_same hD (sR0 _) _ _
  ·have e1:cY0 p o=false:=by unfold cY0;simp [Ne.symm e]
   have e2:eB0 p o=false:=by unfold eB0;simp [Ne.symm e]
   rw [Maps.atKey_put_other (aG1 e),h.1 p,iC0,iC0,e1,e2];simp
 ·rw [mU0]
  by_cases e:p=o.price
  ·subst e;rw [Maps.has_put_same hD (sR0 _)];simp [hn]
  ·rw [Maps.has_put_other (aG1 e),h.2 p];constructor
   ·exact Or.inl
   ·rintro (h1 | ⟨_,h1⟩)
    ·exact h1
    ·exact absurd h1.symm e
def cM0 (w:World) (B:Nat) (l:List Ord) (more:Int):Prop:=∃D,w.ownsMap Tryz.prog 3 lotR B (l.length+1) D∧Maps.IsMap D∧LotD D l more
theorem cM0.lt {w:World} {B:Nat} {l:List Ord} {more:Int} (h:cM0 w B l more):B<w.heap.size:=by
 obtain ⟨D,ho,_⟩:=h;exact ho.lt
theorem cM0.block {w w':World} {B:Nat} {l:List Ord} {more:Int} (h:cM0 w B l more) (hb:w'.heap[B]? = w.heap[B]?):cM0 w' B l more:=by
 obtain ⟨D,⟨es,clock,e1,e2,e3,e4⟩,h2⟩:=h;exact ⟨D,⟨es,clock,hb.trans e1,e2,e3,e4⟩,h2⟩
theorem cM0.below {w w':World} {B:Nat} {l:List Ord} {more:Int} (h:cM0 w B l more) (hb:Below w.heap.size w w'):cM0 w' B l more:=h.block (hb.block B h.lt)
theorem cM0.look {w:World} {B:Nat} {l:List Ord} {more:Int} (h:cM0 w B l more) {p:Int} (hp:(Lit.int .i64 p).wf=true):
  (Instr.lookup 194 (.map (some B)) (.int .i64 p) false).run Tryz.prog w=.ok (.agg #[.int .i64 (sumQ (cY0 p) l),.int .i64 (sumQ (eB0 p) l)]) w:=by
 obtain ⟨D,ho,hD,hL⟩:=h;obtain ⟨v,ps,hrun,hv⟩:=ho.lookup Tryz.cu_keyInt Tryz.underlying194 (Tryz.zeroLots w) (zd:=lotE 0 0) (zp:=[]) rfl (Tryz.cu_keyIs hp);rw [hL.1 p] at hv;rw [hrun,lB1 hv]
theorem cM0.store {w:World} {B:Nat} {l:List Ord} {more:Int} {o:Ord} (h:cM0 w B l more) (hn:cZ0 o=true) (hp:(Lit.int .i64 o.price).wf=true) (hl:l.length≤1000):
  ∃w',(Instr.mapUpdate 194 (.map (some B)) (.int .i64 o.price) (.agg #[.int .i64 (sumQ (cY0 o.price) (l++[o])),.int .i64 (sumQ (eB0 o.price) (l++[o]))])).run Tryz.prog w=.ok () w'∧cM0 w' B (l++[o]) more∧w.grownBy w' (some B):=by
 obtain ⟨D,ho,hD,hL⟩:=h;obtain ⟨w',hr,ho',hg⟩:=ho.update Tryz.cu_keyInt Tryz.underlying194 (by unfold maxLen;omega) (Tryz.cu_keyIs hp) (xW0 _ _);refine ⟨w',hr,⟨_,?_,hD.put _ _,hL.put hD hn⟩,hg⟩;rw [List.length_append,List.length_singleton];exact ho'
theorem cM0.same {w:World} {B:Nat} {l:List Ord} {more:Int} {o:Ord} (h:cM0 w B l more) (hk:o.kind=2):cM0 w B (l++[o]) more:=by
 obtain ⟨D,ho,hD,hL⟩:=h;exact ⟨D,ho.mono (by simp),hD,hL.same hk⟩
def andB (o:Ord) (a:Int):Int:=if o.side=1 then a+o.qty else a
def andS (o:Ord) (b:Int):Int:=if o.side=1 then b else b+o.qty
set_option maxHeartbeats 1000000 in
theorem rY1 (a b:Int) (o:Ord) (w:World) (ha:-4000000000000000000≤a∧a≤4000000000000000000) (hb:-4000000000000000000≤b∧b≤4000000000000000000) (ho:-1000000≤o.qty∧o.qty≤1000000):
  Calls Tryz.prog 127 #[.agg #[.int .i64 a,.int .i64 b],.agg #[.int .i64 o.id,.int .i64 o.side,.int .i64 o.kind,.int .i64 o.price,.int .i64 o.qty]] w fun e w'=>e=.returned (.agg #[.int .i64 (andB o a),.int .i64 (andS o b)])∧Below w.heap.size w w':=by
 obtain ⟨ha1,ha2⟩:=ha;obtain ⟨hb1,hb2⟩:=hb;obtain ⟨ho1,ho2⟩:=ho
 by_cases hs:o.side=1
 ·have HA:Hid (andB o a=a+o.qty∧andS o b=b):=⟨if_pos hs,if_pos hs⟩;go_enter Tryz.func127,Tryz.ntmps127;go_wp2_with fail;go_returns;refine ⟨by rw [HA.out.1,HA.out.2],?_⟩;go_grown
 ·have HA:Hid (andB o a=a∧andS o b=b+o.qty):=⟨if_neg hs,if_neg hs⟩;go_enter Tryz.func127,Tryz.ntmps127;go_wp2_with fail;go_returns;refine ⟨by rw [HA.out.1,HA.out.2],?_⟩;go_grown
set_option maxHeartbeats 1000000 in
theorem lC1 (o:Ord) (w:World):
  Calls Tryz.prog 126 #[.agg #[.int .i64 o.id,.int .i64 o.side,.int .i64 o.kind,.int .i64 o.price,.int .i64 o.qty]] w fun e w'=>e=.returned (.bool (okO o))∧Below w.heap.size w w':=by
 have HO:Hid (okO o=(((o.side == 1) || (o.side == 2))&& (decide (1≤o.qty)&& decide (o.qty≤1000000)))):=by
  show okO o=_;unfold okO
  congr 1
  rw [Bool.eq_iff_iff,wT0];simp;omega
 go_enter Tryz.func126,Tryz.ntmps126;go_wp2_with fail
 all_goals
  go_ret;refine ⟨?_,bD0 w _⟩;rw [HO.out]
  first | (simp [*];done) | (simp [*];omega)
theorem cG1 {q:Ord→Bool} {l:List Ord} {k:Nat} (h:k<l.length):(l.take (k+1)).filter q=if q (oAt l k)=true then (l.take k).filter q++[oAt l k] else (l.take k).filter q:=by
 rw [List.take_succ_eq_append_getElem h,List.filter_append,dL0 h]
 by_cases hq:q l[k]=true
 ·rw [if_pos hq];simp [hq]
 ·rw [if_neg hq];simp [hq]
theorem lD1 (a:List Ord) (x:Ord):oV (a++[x])=oV a++[.int .i64 x.id,.int .i64 x.side,.int .i64 x.kind,.int .i64 x.price,.int .i64 x.qty]:=by rw [cC0];rfl
theorem Tryz.infoOd:(Tryz.prog.info? 41).map (fun i=>(i.zero,i.size,i.bytes))=some (some (.agg #[.int .i64 0,.int .i64 0,.int .i64 0,.int .i64 0,.int .i64 0]),5,40):=by kernel_rfl
def xX0 (w:World) (b:Nat) (o:Ord):Prop:=w.heap[b]? = some (.cells #[.int .i64 o.id,.int .i64 o.side,.int .i64 o.kind,.int .i64 o.price,.int .i64 o.qty] 41 (0,0))
theorem xX0.below {w w':World} {b:Nat} {o:Ord} (h:xX0 w b o) (hb:Below w.heap.size w w'):xX0 w' b o:=eA0 h hb
set_option maxRecDepth 4000 in
set_option maxHeartbeats 4000000 in
theorem rZ1 (a:Option Addr) (cap:Nat) (l:List Ord) (w:World) (h:cR0 w a l) (hl:l.length≤1000):
  Calls Tryz.prog 125 #[.slice a l.length cap,.func (.func 126) #[] #[]] w fun e w'=>∃v',e=.returned v'∧w'.ownsRow w.heap.size 41 5 v' (l.filter okO).length (oV (l.filter okO))∧Below w.heap.size w w':=by
 obtain ⟨iP,hiP,hP0,hP1,hP2⟩:=info_parts Tryz.infoOd;have HA:Hid (cR0 w a l):=h;clear h;go_enter Tryz.func125,Tryz.ntmps125;go_wp2_with fail;go_loopw [5,10] (fun v i wr=>∃k:Nat,k≤l.length∧i=.int .i64 k∧wr.ownsRow w.heap.size 41 5 v ((l.take k).filter okO).length (oV ((l.take k).filter okO))∧Below w.heap.size w wr) (fun _ i _=>l.length - (intOf i).toNat)
 case atStart=>exact ⟨0,Nat.zero_le _,rfl,World.ownsRow_nil _ _ _ _,Below.refl _ _⟩
 case round=>
  obtain ⟨k,hk,rfl,hown,hb⟩:=hrel;have HW:Hid (wr.ownsRow w.heap.size 41 5 u5 ((l.take k).filter okO).length (oV ((l.take k).filter okO))):=hown;have HB:Hid (Below w.heap.size w wr):=hb
  have hbl:((l.take k).filter okO).length≤1000:=by
   have:=List.length_filter_le okO (l.take k);rw [List.length_take] at this;omega
  obtain ⟨vao,vcap,rfl,_,_⟩:=aW0 hown;clear hown
  by_cases hk1:k<l.length
  ·have hlt:(k:Int)<(l.length:Int):=by omega
   obtain ⟨b,off,rfl,d0,d1,d2,d3,d4⟩:=HA.out.below hb k hk1;have HT:Hid ((l.take (k+1)).filter okO=if okO (oAt l k)=true then (l.take k).filter okO++[oAt l k] else (l.take k).filter okO):=cG1 hk1;clear hb;generalize oAt l k=x at d0 d1 d2 d3 d4 HT;generalize (l.take k).filter okO=acc at HT HW hbl;go_wp2_with fail;have hX:xX0 (wr.alloc (.cells #[.int .i64 x.id,.int .i64 x.side,.int .i64 x.kind,.int .i64 x.price,.int .i64 x.qty] 41)) wr.heap.size x:=heap_alloc_new wr _;have hbA:=bD0 wr (.cells #[.int .i64 x.id,.int .i64 x.side,.int .i64 x.kind,.int .i64 x.price,.int .i64 x.qty] 41);generalize wr.alloc (.cells #[.int .i64 x.id,.int .i64 x.side,.int .i64 x.kind,.int .i64 x.price,.int .i64 x.qty] 41)=W at hX hbA ⊢;generalize wr.heap.size=xb at hX ⊢;refine (lC1 x W).mono ?_;rintro e w4 ⟨rfl,hb4⟩;have hX4:=hX.below hb4;have HW4:Hid (w4.ownsRow w.heap.size 41 5 (.slice vao acc.length vcap) acc.length (oV acc)):=cB0 HW.out (aS0 hbA hb4) lR7;have HB4:Hid (Below w.heap.size w w4):=aS0 HB.out (aS0 hbA hb4);clear hX hbA hb4 HW HB d0 d1 d2 d3 d4;cases hq:okO x with
   | true=>
    have HT2:Hid ((l.take (k+1)).filter okO=acc++[x]):=by rw [HT.out,if_pos hq];rfl
    have y0:=aP0 (j:=0) hX4 rfl;have y1:=aP0 (j:=1) hX4 rfl;have y2:=aP0 (j:=2) hX4 rfl;have y3:=aP0 (j:=3) hX4 rfl;have y4:=aP0 (j:=4) hX4 rfl;clear HT hq hX4;go_wp2_with (at_builtin;refine wpList_append_own_at _ rfl _ _ 59 rfl w.heap.size 41 iP (.agg #[.int .i64 0,.int .i64 0,.int .i64 0,.int .i64 0,.int .i64 0]) 5 40 Tryz.underlying59 hiP hP0 hP1 hP2 rfl (by decide) _ acc.length (oV acc) rfl (HW4.out.alloc _) ⟨w4.heap.size,0,none⟩ 1 1 [.int .i64 x.id,.int .i64 x.side,.int .i64 x.kind,.int .i64 x.price,.int .i64 x.qty] rfl rfl (World.news_of_block (cs:=#[.int .i64 x.id,.int .i64 x.side,.int .i64 x.kind,.int .i64 x.price,.int .i64 x.qty]) (t:=41) (fr:=(0,0)) (heap_alloc_new w4 _)) (by simp [Value.oneCell']) (by unfold maxLen;omega) (by omega) (by have:=HB4.out.size;simp;omega) ?_;intro v' w6 hown6 hgrow6 _ _);go_roundw
    case rel=>
     refine ⟨k+1,hk1,by go_num,?_,(HB4.out.alloc HB4.out.size _).grown hgrow6 (by have:=HB4.out.size;simp;omega) (fun q hq=>(HW4.out.lt q hq).1)⟩;rw [HT2.out,lD1,List.length_append,List.length_singleton];exact hown6
    case measure=>simp [intOf];omega
   | false=>
    have HT2:Hid ((l.take (k+1)).filter okO=acc):=by rw [HT.out,if_neg (by rw [hq];decide)];rfl
    clear HT hq hX4;go_wp2_with fail;go_roundw
    case rel=>exact ⟨k+1,hk1,by go_num,by rw [HT2.out];exact HW4.out,HB4.out⟩
    case measure=>simp [intOf];omega
  ·obtain rfl:k=l.length:=by omega
   rw [List.take_length] at HW hbl ⊢;clear hb;go_wp2_with fail;go_ret;exact ⟨_,rfl,HW.out,HB.out⟩
end Go.Proofs.YtjdkagafdnchhaaGreatDoor
namespace Go.Proofs.YtjdkagafdnchhaaGreatDoor
open Go.Shelf
def lays189_ren:Go.Shelf.Ren:=⟨fun | 189=>193 | 125=>201 | 257=>200 | 128=>214 | 129=>215 | 294=>205 | 295=>206 | 296=>207 | 297=>208 | 298=>209 | 299=>210 | 216=>211 | 300=>212 | 301=>213 | 328=>216 | 329=>217 | 330=>218 | 331=>219 | 332=>220 | 215=>221 | 343=>222 | n=>n,fun | 28=>65 | 0=>0 | 3=>3 | 46=>208 | 51=>283 | 53=>285 | 4=>4 | 183=>276 | 182=>275 | 131=>280 | 5=>5 | 9=>9 | 218=>286 | 222=>290 | 228=>292 | 229=>57 | n=>n,fun | n=>n⟩
theorem gP1:Go.Proofs.Lays.n189 Tryz.prog lays189_ren:={
 mixed:=by kernel_rfl
 f125:=Tryz.func201.trans (congrArg some (by kernel_rfl))
 f128:=Tryz.func214.trans (congrArg some (by kernel_rfl))
 f129:=Tryz.func215.trans (congrArg some (by kernel_rfl))
 f189:=Tryz.func193.trans (congrArg some (by kernel_rfl))
 f215:=Tryz.func221.trans (congrArg some (by kernel_rfl))
 f216:=Tryz.func211.trans (congrArg some (by kernel_rfl))
 f257:=Tryz.func200.trans (congrArg some (by kernel_rfl))
 f294:=Tryz.func205.trans (congrArg some (by kernel_rfl))
 f295:=Tryz.func206.trans (congrArg some (by kernel_rfl))
 f296:=Tryz.func207.trans (congrArg some (by kernel_rfl))
 f297:=Tryz.func208.trans (congrArg some (by kernel_rfl))
 f298:=Tryz.func209.trans (congrArg some (by kernel_rfl))
 f299:=Tryz.func210.trans (congrArg some (by kernel_rfl))
 f300:=Tryz.func212.trans (congrArg some (by kernel_rfl))
 f301:=Tryz.func213.trans (congrArg some (by kernel_rfl))
 f328:=Tryz.func216.trans (congrArg some (by kernel_rfl))
 f329:=Tryz.func217.trans (congrArg some (by kernel_rfl))
 f330:=Tryz.func218.trans (congrArg some (by kernel_rfl))
 f331:=Tryz.func219.trans (congrArg some (by kernel_rfl))
 f332:=Tryz.func220.trans (congrArg some (by kernel_rfl))
 f343:=Tryz.func222.trans (congrArg some (by kernel_rfl))
 t0:=Tryz.underlying0
 a0:=Tryz.isAgg0
 z0:=Tryz.sizeOf0
 v0:=Tryz.zeroValue0
 t3:=Tryz.underlying3
 a3:=Tryz.isAgg3
 z3:=Tryz.sizeOf3
 v3:=Tryz.zeroValue3
 t4:=Tryz.underlying4
 a4:=Tryz.isAgg4
 z4:=Tryz.sizeOf4
 v4:=Tryz.zeroValue4
 t5:=Tryz.underlying5
 a5:=Tryz.isAgg5
 z5:=Tryz.sizeOf5
 v5:=Tryz.zeroValue5
 t9:=Tryz.underlying9
 a9:=Tryz.isAgg9
 z9:=Tryz.sizeOf9
 v9:=Tryz.zeroValue9
 t28:=Tryz.underlying65
 a28:=Tryz.isAgg65
 z28:=Tryz.sizeOf65
 v28:=Tryz.zeroValue65
 t46:=Tryz.underlying208
 a46:=Tryz.isAgg208
 z46:=Tryz.sizeOf208
 v46:=Tryz.zeroValue208
 t51:=Tryz.underlying283
 a51:=Tryz.isAgg283
 z51:=Tryz.sizeOf283
 v51:=Tryz.zeroValue283
 t53:=Tryz.underlying285
 a53:=Tryz.isAgg285
 z53:=Tryz.sizeOf285
 v53:=Tryz.zeroValue285
 t131:=Tryz.underlying280
 a131:=Tryz.isAgg280
 z131:=Tryz.sizeOf280
 v131:=Tryz.zeroValue280
 t182:=Tryz.underlying275
 a182:=Tryz.isAgg275
 z182:=Tryz.sizeOf275
 v182:=Tryz.zeroValue275
 t183:=Tryz.underlying276
 a183:=Tryz.isAgg276
 z183:=Tryz.sizeOf276
 v183:=Tryz.zeroValue276
 t218:=Tryz.underlying286
 a218:=Tryz.isAgg286
 z218:=Tryz.sizeOf286
 v218:=Tryz.zeroValue286
 t222:=Tryz.underlying290
 a222:=Tryz.isAgg290
 z222:=Tryz.sizeOf290
 v222:=Tryz.zeroValue290
 t228:=Tryz.underlying292
 a228:=Tryz.isAgg292
 z228:=Tryz.sizeOf292
 v228:=Tryz.zeroValue292
 t229:=Tryz.underlying57
 a229:=Tryz.isAgg57
 z229:=Tryz.sizeOf57
 v229:=Tryz.zeroValue57 }
end Go.Proofs.YtjdkagafdnchhaaGreatDoor
namespace Go.Proofs.YtjdkagafdnchhaaGreatDoor
open Go.RowKit Go.Maps Go.Sort Go.Shelf
def laysK_ren:Go.Shelf.Ren:=⟨fun | 7=>167 | 10=>197 | n=>n,fun | 23=>194 | 26=>3 | 3=>193 | 28=>246 | 0=>0 | 27=>245 | 33=>109 | 4=>4 | n=>n,fun n=>n⟩
theorem sA1:Go.Proofs.SlLaysZI.n7 Tryz.prog laysK_ren:={
 mixed:=by kernel_rfl
 f7:=⟨Tryz.f167.name,by kernel_rfl,Tryz.func167.trans (congrArg some (by kernel_rfl))⟩
 f10:=⟨Tryz.f197.name,by kernel_rfl,Tryz.func197.trans (congrArg some (by kernel_rfl))⟩
 t0:=Tryz.underlying0
 a0:=Tryz.isAgg0
 z0:=Tryz.sizeOf0
 v0:=Tryz.zeroValue0
 t4:=Tryz.underlying4
 a4:=Tryz.isAgg4
 z4:=Tryz.sizeOf4
 v4:=Tryz.zeroValue4
 t23:=Tryz.underlying194
 a23:=Tryz.isAgg194
 z23:=Tryz.sizeOf194
 v23:=Tryz.zeroValue194
 t26:=Tryz.underlying3
 a26:=Tryz.isAgg3
 z26:=Tryz.sizeOf3
 v26:=Tryz.zeroValue3
 t27:=Tryz.underlying245
 a27:=Tryz.isAgg245
 z27:=Tryz.sizeOf245
 v27:=Tryz.zeroValue245
 t28:=Tryz.underlying246
 a28:=Tryz.isAgg246
 z28:=Tryz.sizeOf246
 v28:=Tryz.zeroValue246
 t33:=Tryz.underlying109
 a33:=Tryz.isAgg109
 z33:=Tryz.sizeOf109
 v33:=Tryz.zeroValue109 }
def laysS_ren:Go.Shelf.Ren:=⟨fun | 6=>166 | 8=>196 | 9=>193 | 11=>202 | n=>n,fun | 26=>3 | 28=>246 | 24=>65 | 0=>0 | 3=>3 | 33=>109 | 4=>4 | n=>n,fun n=>n⟩
theorem tO1:Go.Proofs.SlLaysZI.n6 Tryz.prog laysS_ren:={
 mixed:=by kernel_rfl
 f6:=⟨Tryz.f166.name,by kernel_rfl,Tryz.func166.trans (congrArg some (by kernel_rfl))⟩
 f8:=⟨Tryz.f196.name,by kernel_rfl,Tryz.func196.trans (congrArg some (by kernel_rfl))⟩
 f11:=⟨Tryz.f202.name,by kernel_rfl,Tryz.func202.trans (congrArg some (by kernel_rfl))⟩
 t0:=Tryz.underlying0
 a0:=Tryz.isAgg0
 z0:=Tryz.sizeOf0
 v0:=Tryz.zeroValue0
 t24:=Tryz.underlying65
 a24:=Tryz.isAgg65
 z24:=Tryz.sizeOf65
 v24:=Tryz.zeroValue65
 t26:=Tryz.underlying3
 a26:=Tryz.isAgg3
 z26:=Tryz.sizeOf3
 v26:=Tryz.zeroValue3
 t28:=Tryz.underlying246
 a28:=Tryz.isAgg246
 z28:=Tryz.sizeOf246
 v28:=Tryz.zeroValue246
 i26:=by kernel_rfl }
theorem sB1 (m:Nat):AnyZI.SortsIn Tryz.prog laysS_ren Fence.wide m:=
 ⟨fun blk off cap ss W hH hblk hsz=>callsIn_wide.2 (Any.slices_Sort_int { gP1 with } blk off cap ss W hH hblk hsz),
  fun p cap W=>callsIn_wide.2 (Any.slices_Sort_int_none { gP1 with } p cap W)⟩
theorem lE1 (mb:Option Nat) (W:World):Calls Tryz.prog 167 #[.map mb] W fun e w'=>e=.returned (.func (.func 197) #[] #[.pointer (some ⟨W.heap.size,0,none⟩)])∧w'=W.alloc (.cells #[.map mb] 194):=
 (callsIn_wide (n:=5)).1 (AnyZI.keys_in sA1 Fence.wide 5 trivial rfl mb W)
theorem cH1 {R:Value→Option (DataW Unit×List MemPlace)} (b nn:Nat) (D0:DataW Unit) (w:World) (hown:w.ownsMap Tryz.prog 3 R b nn D0) (hmax:Maps.size D0≤100000):
  Calls Tryz.prog 166 #[.func (.func 197) #[] #[.pointer (some ⟨w.heap.size,0,none⟩)]] (w.alloc (.cells #[.map (some b)] 194)) fun e w'=>∃(v:Value) (ss:List Int),e=.returned v∧ss.Perm (intKeys D0)∧
   w'.ownsRow (w.alloc (.cells #[.map (some b)] 194)).heap.size 3 1 v ss.length ((ss.mergeSort (fun x y=>decide (x≤y))).map encZ)∧(v=.slice none 0 0↔ss=[])∧Below (w.alloc (.cells #[.map (some b)] 194)).heap.size (w.alloc (.cells #[.map (some b)] 194)) w':=by
 have hbl:=hown.lt
 have hseq:SeqGives Fence.wide 2 Tryz.prog 197 #[.pointer (some ⟨w.heap.size,0,none⟩)] encZ (fun ss=>ss.Perm (intKeys D0)) (Maps.size D0) (w.alloc (.cells #[.map (some b)] 194)):=
  AnyZI.keys_gives (ρ:=laysK_ren) { sA1 with } Fence.wide _ trivial rfl (by omega) w.heap.size b nn D0 _ (by simp) (by simp) (by
   obtain ⟨es,clock,hb,Ft,hs,hD⟩:=hown;exact ⟨es,clock,(Below.heap_alloc _ _ b hbl).trans hb,Ft,hs,hD⟩)
 have cS:=AnyZI.sorted_in tO1 Fence.wide 5 trivial trivial trivial trivial rfl (by omega) (sB1 _) (enters_of Tryz.func193 (by kernel_rfl) rfl) 197 #[.pointer (some ⟨w.heap.size,0,none⟩)] trivial (enters_of Tryz.func197 (by kernel_rfl) rfl) _ _ (by unfold maxLen;omega) (by omega) _ hseq;exact (callsIn_wide (n:=5)).1 cS
end Go.Proofs.YtjdkagafdnchhaaGreatDoor
namespace Go.Proofs.YtjdkagafdnchhaaGreatDoor
open Go.RowKit
theorem Tryz.infoCq:(Tryz.prog.info? 189).map (fun i=>(i.zero,i.size,i.bytes))=some (some (.agg #[.int .i64 0,.int .i64 0,.int .i64 0]),3,24):=by kernel_rfl
theorem pR1 {D:DataW Unit} {F:List Ord} {more:Int} (h:LotD D F more) {kl:Lit} {x:Int} (hk:kl=.int .i64 x) {c:Int×Int} {y:DataW Unit×List MemPlace} (hv:lotR (.agg #[.int .i64 c.1,.int .i64 c.2])=some y) (hat:∀zd,D.atKey kl zd=y.1):c.1=sumQ (cY0 x) F∧c.2=sumQ (eB0 x) F:=by
 subst hk;have h1:=h.1 x;rw [hat] at h1;rw [xW0] at hv;cases hv;exact aF1 h1
theorem vN0 {D:DataW Unit} {F:List Ord} {more:Int} (h:LotD D F more) {left:Lit→Bool} {ss:List Int} (hC:CollectedI D left ss) (hl:∀kl,left kl=false):ss.Nodup∧∀p,p∈ss↔p∈bA0 F more:=
 ⟨hC.1,fun p=>by rw [hC.2 p,h.2 p,hl];simp⟩
theorem cI1 {D:DataW Unit} {F:List Ord} {more:Int} (h:LotD D F more) {left:Lit→Bool} {ss:List Int} (hC:CollectedI D left ss) (hl:∀kl,left kl=false) {w:World} {B n:Nat} (ho:w.ownsMap Tryz.prog 3 lotR B n D) {tt:List Int} (hp:tt.Perm (intKeys D)):(eJ0 tt).Pairwise (· < ·)∧(∀p,p∈eJ0 tt↔p∈bA0 F more)∧∀p∈eJ0 tt,(Lit.int .i64 p).wf=true:=by
 have h1:=hC.perm ho Tryz.cu_keyInt Tryz.underlying3 hl;have h2:tt.Nodup:=(hp.trans h1.symm).nodup_iff.2 hC.1;refine ⟨vM0 h2,fun p=>?_,fun p hp'=>?_⟩
 ·rw [gP0,(hp.trans h1.symm).mem_iff];exact (vN0 h hC hl).2 p
 ·rw [gP0,hp.mem_iff] at hp';exact intKeys_wf ho Tryz.underlying3 p hp'
theorem fld0 (a b:Int) (W:World):(Instr.field 193 (.agg #[.int .i64 a,.int .i64 b]) 0).run Tryz.prog W=.ok (.int .i64 a) W:=by kernel_rfl
theorem fld1 (a b:Int) (W:World):(Instr.field 193 (.agg #[.int .i64 a,.int .i64 b]) 1).run Tryz.prog W=.ok (.int .i64 b) W:=by kernel_rfl
theorem vO0 {w w':World} {base:Nat} {e:TypeId} {size:Nat} {v:Value} {n:Nat} {xs:List Value} {row:Option Nat} (h:w.ownsRow base e size v n xs) (hg:w.grownBy w' row) (hne:∀k,v.ownBlock=some k→row≠some k):w'.ownsRow base e size v n xs:=by
 refine ⟨h.1,h.2.imp id (fun ⟨g,cap,cur,e1,hb,hh,r⟩=>⟨g,cap,cur,e1,hb,(hg.block g (lt_of_block hh) (fun e2=>hne g (by rw [e1];rfl) e2.symm)).trans hh,r⟩)⟩
theorem gQ1 {w:World} {base base':Nat} {e e':TypeId} {size size':Nat} {v v':Value} {n n':Nat} {xs xs':List Value} (h:w.ownsRow base e size v n xs) (h':w.ownsRow base' e' size' v' n' xs') (ht:e≠e'):∀k,v.ownBlock=some k→v'.ownBlock≠some k:=fun k hv hv'=>by
 rcases h.2 with ⟨rfl,_⟩ | ⟨g,cap,cur,rfl,_,hh,_⟩
 ·simp [Value.ownBlock] at hv
 ·rcases h'.2 with ⟨rfl,_⟩ | ⟨g',cap',cur',rfl,_,hh',_⟩
  ·simp [Value.ownBlock] at hv'
  ·simp [Value.ownBlock] at hv hv';subst hv;subst hv';rw [hh] at hh';simp at hh';exact ht hh'.2
set_option maxRecDepth 4000 in
set_option maxHeartbeats 4000000 in
theorem lF1 (B:Nat) (F:List Ord) (more:Int) (w:World) (hL:cM0 w B F more) (hF:∀o∈F,okO o=true) (hl:F.length≤1000):
  Calls Tryz.prog 128 #[.map (some B),.agg #[.int .i64 (sumQ mkBB F),.int .i64 (sumQ mkSB F)]] w fun e w'=>∃(v':Value) (xs:List Int),e=.returned v'∧xs.Pairwise (· < ·)∧(∀p,p∈xs↔p∈bA0 F more)∧w'.ownsRow w.heap.size 189 3 v' (ptsX xs F).length (ptV (ptsX xs F))∧Below w.heap.size w w':=by
 obtain ⟨iP,hiP,hP0,hP1,hP2⟩:=info_parts Tryz.infoCq;have HL:Hid (cM0 w B F more):=hL;have HF:Hid (∀o∈F,okO o=true):=hF;obtain ⟨D,ho,hD,hLD⟩:=hL;have HO:Hid (w.ownsMap Tryz.prog 3 lotR B (F.length+1) D):=ho;have HD:Hid (LotD D F more):=hLD;have hsz:=ho.size_le;have hmB:=cO0 (q:=mkBB) hF hl;have hmS:=cO0 (q:=mkSB) hF hl;clear ho hD hLD hF;go_enter Tryz.func128,Tryz.ntmps128;go_wp2_with fail;go_quiet (fail);have hbW:Below w.heap.size w ((w.alloc (.cells #[.int .i64 (sumQ mkBB F),.int .i64 (sumQ mkSB F)] 193)).drewN nq):=below_drewN (bD0 w _) _;have HBW:Hid (Below w.heap.size w ((w.alloc (.cells #[.int .i64 (sumQ mkBB F),.int .i64 (sumQ mkSB F)] 193)).drewN nq)):=hbW
 have HOW:Hid (((w.alloc (.cells #[.int .i64 (sumQ mkBB F),.int .i64 (sumQ mkSB F)] 193)).drewN nq).ownsMap Tryz.prog 3 lotR B (F.length+1) D):=by
  obtain ⟨es,clock,e1,e2,e3,e4⟩:=HO.out;exact ⟨es,clock,(hbW.block B HO.out.lt).trans e1,e2,e3,e4⟩
 clear hbW;generalize (w.alloc (.cells #[.int .i64 (sumQ mkBB F),.int .i64 (sumQ mkSB F)] 193)).drewN nq=W at HBW HOW ⊢;have hM:sumQ mkBB F=sumQ mkBB F+sumX cY0 [] F:=by rw [aD1];omega
 have HM:Hid (sumQ mkBB F+sumX cY0 [] F=sumQ mkBB F):=hM.symm;clear hM;go_wp2_with (first | (at_range;refine wpList_range_own _ rfl _ 194 rfl 3 193 Tryz.cu_keyInt Tryz.underlying194 _ B (F.length+1) _ rfl HOW.out ?_;intro w0 hrg0 hg0 hs0) | go_in);go_frame;have HRG:Hid (w0.ranges Tryz.prog 3 lotR B W.heap.size (F.length+1) D (Maps.has D) (Maps.size D)):=hrg0;have HB0:Hid (Below w.heap.size w w0):=HBW.out.grown hg0 HBW.out.size (fun q hq=>by cases hq);clear hrg0 hg0 hs0;go_loopw [5] (fun v wr=>∃(left:Lit→Bool) (cnt:Nat) (ss:List Int),v=.int .i64 (sumQ mkBB F+sumX cY0 ss F)∧wr.ranges Tryz.prog 3 lotR B W.heap.size (F.length+1) D left cnt∧CollectedI D left ss∧Below w.heap.size w wr) (fun _ wr=>wr.rangeLeft B W.heap.size)
 case atStart=>exact ⟨_,_,[],by rw [HM.out],HRG.out,CollectedI.start D,HB0.out⟩
 case round=>
  obtain ⟨left,cnt,ss,rfl,hrg,hC,hb⟩:=hrel;have HRW:Hid (wr.ranges Tryz.prog 3 lotR B W.heap.size (F.length+1) D left cnt):=hrg;have HC:Hid (CollectedI D left ss):=hC;have HB:Hid (Below w.heap.size w wr):=hb;have hbs:0≤sumX cY0 ss F∧sumX cY0 ss F≤1000000000:=by rw [pR0 hC.1];exact cO0 HF.out hl
  clear hrg hC hb HRG HB0 HM;go_wp2_with (first | (at_next;refine wpList_next_ranges _ rfl _ rfl 3 Tryz.cu_keyInt lotR (Value.int .i64) (fun c:Int×Int=>.agg #[.int .i64 c.1,.int .i64 c.2]) (fun key kl hk=>by obtain ⟨x,hx,_⟩:=Maps.keyOf_i64 Tryz.underlying3 hk;exact ⟨x,hx⟩) (fun v y hv=>by obtain ⟨a,b,hx,_⟩:=rG0 hv;exact ⟨(a,b),hx⟩) B W.heap.size (F.length+1) _ _ _ rfl HRW.out ?_ ?_) | go_in)
  ·intro hc0 hl0;have HOr:Hid (wr.ownsMap Tryz.prog 3 lotR B (F.length+1) D):=HRW.out.owns;have HPR:Hid (ss.Nodup∧∀p,p∈ss↔p∈bA0 F more):=vN0 HD.out HC.out hl0;have HNP:Hid (∀{W3:World},W3.ownsMap Tryz.prog 3 lotR B (F.length+1) D→∀{tt:List Int},tt.Perm (intKeys D)→(eJ0 tt).Pairwise (· < ·)∧(∀p,p∈eJ0 tt↔p∈bA0 F more)∧∀p∈eJ0 tt,(Lit.int .i64 p).wf=true):=fun hW3 _ hp=>cI1 HD.out HC.out hl0 hW3 hp
   clear hc0 hl0 HRW HC;go_wp2_with (first | (at_len;refine wpList_len_own _ rfl _ 194 rfl 3 193 Tryz.underlying194 _ B (F.length+1) D rfl HOr.out ?_) | (at_make;refine wpList_make_own _ rfl _ _ 127 rfl wr.heap.size 189 iP (.agg #[.int .i64 0,.int .i64 0,.int .i64 0]) 3 Tryz.underlying127 hiP hP0 hP1 _ _ _ (Maps.size D) rfl rfl rfl (by rw [hP2];omega) (by unfold maxLen;omega) lR7 ?_;intro w3 hown3 hg3));refine (lE1 (some B) w3).mono ?_;rintro e w4 ⟨rfl,hw4⟩;subst hw4;have HB3:Hid (Below w.heap.size w w3):=HB.out.grown hg3 HB.out.size (fun q hq=>by cases hq);have HO3:Hid (w3.ownsMap Tryz.prog 3 lotR B (F.length+1) D):=HOr.out.kept hg3 (by simp);have HW3:Hid (w3.ownsRow w.heap.size 189 3 (.slice (some ⟨wr.heap.size,0,none⟩) 0 (Maps.size D)) 0 []):=bP0 hown3 HB.out.size;clear hown3 hg3 HOr;go_wp2_with fail;refine (cH1 B (F.length+1) D w3 HO3.out (by omega)).mono ?_;rintro e w5 ⟨v5,tt,rfl,hp,hrow,_,hb5⟩;obtain ⟨hx1,hx2,hx3⟩:=HNP.out HO3.out hp;have hb35:Below w3.heap.size w3 w5:=aS0 (bD0 w3 _) hb5;have HB5:Hid (Below w.heap.size w w5):=aS0 HB3.out hb35;have HW5:Hid (w5.ownsRow w.heap.size 189 3 (.slice (some ⟨wr.heap.size,0,none⟩) 0 (Maps.size D)) 0 []):=cB0 HW3.out hb35 lR7
   have HI5:Hid (w5.ownsRow w.heap.size 3 1 v5 (eJ0 tt).length (ints (eJ0 tt))):=by
    rw [fX0];exact bP0 hrow (Nat.le_trans HB3.out.size (bD0 w3 _).size)
   have hxl:(eJ0 tt).length≤1001:=by
    rw [fX0,hp.length_eq];have:=hsz;obtain ⟨es,rfl,_⟩:=HO3.out.keysOf;simp only [intKeys,List.length_map];rw [Maps.size_eq] at this;omega
   have HXR:Hid ((eJ0 tt).Pairwise (· < ·)):=hx1;have HXM:Hid (∀p,p∈eJ0 tt↔p∈bA0 F more):=hx2;have HXW:Hid (∀p∈eJ0 tt,(Lit.int .i64 p).wf=true):=hx3;clear hp hrow hb5 hb35 hx1 hx2 hx3 HNP HO3 HB3 HW3 HB;generalize eJ0 tt=xs at HI5 hxl HXR HXM HXW;have HSM:Hid (sumX cY0 ss F=sumX cY0 (xs.drop 0) F):=gM1 HPR.out.1 (gT0 HXR.out) (fun p=>by rw [HPR.out.2,HXM.out]) F;have HNM:Hid (∀o∈F,cZ0 o=true→o.price∈xs):=fun o ho hn=>(HXM.out _).2 (cU0.2 (Or.inr ⟨o,ho,hn,rfl⟩))
   rw [HSM.out];have hS0:sumQ mkSB F=sumQ mkSB F+sumX eB0 (xs.take 0) F:=by rw [List.take_zero,aD1];omega
   have HS0:Hid (sumQ mkSB F=sumQ mkSB F+sumX eB0 (xs.take 0) F):=hS0;clear HSM HPR hS0 hbs;obtain ⟨ai,ci,rfl,_,_⟩:=aW0 HI5.out;go_wp2_with fail;go_loopw [5,6,9,11,33] (fun d s o _ i w6=>∃k:Nat,k≤xs.length∧i=.int .i64 k∧d=.int .i64 (sumQ mkBB F+sumX cY0 (xs.drop k) F)∧s=.int .i64 (sumQ mkSB F+sumX eB0 (xs.take k) F)∧w6.ownsRow w.heap.size 189 3 o (ptsX (xs.take k) F).length (ptV (ptsX (xs.take k) F))∧w6.ownsRow w.heap.size 3 1 (.slice ai xs.length ci) xs.length (ints xs)∧Below w.heap.size w w6) (fun _ _ _ _ i _=>xs.length - (intOf i).toNat)
   case atStart=>exact ⟨0,Nat.zero_le _,rfl,rfl,by rw [←HS0.out],HW5.out,HI5.out,HB5.out⟩
   case round=>
    obtain ⟨k,hk,rfl,rfl,rfl,ho,hi,hb⟩:=hrel;have HW:Hid (wr.ownsRow w.heap.size 189 3 u9 (ptsX (xs.take k) F).length (ptV (ptsX (xs.take k) F))):=ho;have HI:Hid (wr.ownsRow w.heap.size 3 1 (.slice ai xs.length ci) xs.length (ints xs)):=hi;have HB:Hid (Below w.heap.size w wr):=hb
    have hpl:(ptsX (xs.take k) F).length≤1001:=by
     unfold ptsX;rw [List.length_map,List.length_take];omega
    obtain ⟨oao,ocap,rfl,_,_⟩:=aW0 ho;clear HW5 HI5 HB5 HS0 ho
    by_cases hk1:k<xs.length
    ·have hlt:(k:Int)<(xs.length:Int):=by omega
     obtain ⟨g,cap',hv,_,_⟩:=hi.form (by omega);simp only [Value.slice.injEq,true_and] at hv;obtain ⟨rfl,rfl⟩:=hv;have c0:wr.cell? ⟨g,k,none⟩=some (.int .i64 (xs.getD k 0)):=(hi.cellAt k (by omega)).trans (xF0 hk1)
     have hmem:xs.getD k 0∈xs:=by
      rw [List.getD_eq_getElem?_getD,List.getElem?_eq_getElem hk1];exact List.getElem_mem hk1
     have HWP:Hid ((Lit.int .i64 (xs.getD k 0)).wf=true):=HXW.out _ hmem;have HST:Hid (sumX eB0 (xs.take (k+1)) F=sumX eB0 (xs.take k) F+sumQ (eB0 (xs.getD k 0)) F):=gK1 F hk1;have HDT:Hid (sumX cY0 (xs.drop k) F=sumQ (cY0 (xs.getD k 0)) F+sumX cY0 (xs.drop (k+1)) F):=gJ1 F hk1
     have HPT:Hid (ptsX (xs.take (k+1)) F=ptsX (xs.take k) F++[⟨xs.getD k 0,sumQ mkBB F+sumX cY0 (xs.drop k) F,sumQ mkSB F+sumX eB0 (xs.take k) F+sumQ (eB0 (xs.getD k 0)) F⟩]):=by
      rw [gO1 F hk1,rW1 HF.out HXR.out HNM.out hk1,←rX1 HF.out HXR.out HNM.out hk1,HST.out,Int.add_assoc];rfl
     have hlk:=(HL.out.below hb).look HWP.out;have hq1:=cO0 (q:=cY0 (xs.getD k 0)) HF.out hl;have hq2:=cO0 (q:=eB0 (xs.getD k 0)) HF.out hl
     have hq3:0≤sumX cY0 (xs.drop k) F∧sumX cY0 (xs.drop k) F≤1000000000:=by
      rw [pR0 ((gT0 HXR.out).sublist (List.drop_sublist ..))];exact cO0 HF.out hl
     have hq4:0≤sumX eB0 (xs.take k) F∧sumX eB0 (xs.take k) F≤1000000000:=by
      rw [gL1 ((gT0 HXR.out).sublist (List.take_sublist ..))];exact cO0 HF.out hl
     clear hb hi hmem;generalize xs.getD k 0=p at c0 HWP HST HDT HPT hlk hq1 hq2;generalize hDK:sumX cY0 (xs.drop k) F=dk at HDT HPT hq3 ⊢;generalize hSK:sumX eB0 (xs.take k) F=sk at HST HPT hq4 ⊢;generalize ptsX (xs.take k) F=acc at HPT HW hpl ⊢;clear hDK hSK;have hf0:=fld0;have hf1:=fld1;go_wp2_with (at_builtin;refine wpList_append_own_at _ rfl _ _ 127 rfl w.heap.size 189 iP (.agg #[.int .i64 0,.int .i64 0,.int .i64 0]) 3 24 Tryz.underlying127 hiP hP0 hP1 hP2 rfl (by decide) _ acc.length (ptV acc) rfl (HW.out.alloc _) ⟨wr.heap.size,0,none⟩ 1 1 [.int .i64 p,.int .i64 (sumQ mkBB F+dk),.int .i64 (sumQ mkSB F+sk+sumQ (eB0 p) F)] rfl rfl (World.news_of_block (cs:=#[.int .i64 p,.int .i64 (sumQ mkBB F+dk),.int .i64 (sumQ mkSB F+sk+sumQ (eB0 p) F)]) (t:=189) (fr:=(0,0)) (heap_alloc_new wr _)) (by simp [Value.oneCell']) (by unfold maxLen;omega) (by omega) (by have:=HB.out.size;simp;omega) ?_;intro v' w6 hown6 hgrow6 _ _;have hb6:=(HB.out.alloc HB.out.size _).grown hgrow6 (by have:=HB.out.size;simp;omega) (fun q hq=>(HW.out.lt q hq).1);have hlk6:=(HL.out.below hb6).look HWP.out);go_roundw
     case rel=>
      refine ⟨k+1,hk1,by go_num,?_,?_,?_,vO0 (HI.out.alloc _) hgrow6 (gQ1 (w:=wr) HI.out HW.out (by decide)),hb6⟩
      ·rw [HDT.out];congr 1;omega
      ·rw [HST.out,Int.add_assoc]
      ·rw [HPT.out,nH0,List.length_append,List.length_singleton];exact hown6
     case measure=>simp [intOf];omega
    ·obtain rfl:k=xs.length:=by omega
     rw [List.take_length] at HW ⊢;clear hb hi;go_wp2_with fail;go_ret;exact ⟨_,xs,rfl,HXR.out,HXM.out,HW.out,HB.out⟩
  ·intro x ca cb kl yd yp w2 cnt2 hkey hlk hv hat hrg2 hlt hg2 hs2 hen;obtain ⟨x',hx',hkl,hwx⟩:=Maps.keyOf_i64 Tryz.underlying3 hkey;obtain rfl:x=x':=by simpa using hx'
   obtain ⟨hc1,hc2⟩:=pR1 (c:=(ca,cb)) HD.out hkl hv hat;replace hc1:ca=_:=hc1;replace hc2:cb=_:=hc2;subst hc1 hc2 hkl;have HR2:Hid (w2.ranges Tryz.prog 3 lotR B W.heap.size (F.length+1) D (fun z=>left z&& !z.sameKey (.int .i64 x)) cnt2):=hrg2;have HC2:Hid (CollectedI D (fun z=>left z&& !z.sameKey (.int .i64 x)) (ss++[x])):=HC.out.step hlk hat;have HB2:Hid (Below w.heap.size w w2):=HB.out.grown hg2 HB.out.size (fun q hq=>by cases hq;exact HBW.out.size);have HLT:Hid (cnt2<cnt):=hlt;have HSX:Hid (sumX cY0 (ss++[x]) F=sumX cY0 ss F+sumQ (cY0 x) F):=vJ0 _ _ _ _;have hq1:=cO0 (q:=cY0 x) HF.out hl;have hq2:=cO0 (q:=eB0 x) HF.out hl;clear hkey hlk hv hat hrg2 hlt hg2 hs2 hx';go_wp2_with fail;go_roundw
   case rel=>exact ⟨_,cnt2,ss++[x],by rw [HSX.out,Int.add_assoc],HR2.out.alloc _,HC2.out,HB2.out.alloc HB2.out.size _⟩
   case measure=>rw [(HR2.out.alloc _).left_eq,HRW.out.left_eq];exact HLT.out
end Go.Proofs.YtjdkagafdnchhaaGreatDoor
namespace Go.Proofs.YtjdkagafdnchhaaGreatDoor
open Go.ChangeShapes Go.WideShapes Go.ChangeAt Go.RowKit Go.Deep
end Go.Proofs.YtjdkagafdnchhaaGreatDoor
namespace Go.Proofs.YtjdkagafdnchhaaGreatDoor
open Go.ChangeShapes Go.WideShapes Go.ChangeAt Go.RowKit
def wf64 (z:Int):Prop:=(Lit.int .i64 z).wf=true
end Go.Proofs.YtjdkagafdnchhaaGreatDoor
namespace Go.Proofs.YtjdkagafdnchhaaGreatDoor
open Go.RowKit
def gF0 (w:World) (mb:Nat) (a b:Int):Prop:=w.heap[mb]? = some (.cells #[.int .i64 a,.int .i64 b] 193 (0,0))
theorem gF0.below {w w':World} {mb:Nat} {a b:Int} (h:gF0 w mb a b) (hb:Below w.heap.size w w'):gF0 w' mb a b:=eA0 h hb
theorem gF0.set {w:World} {mb:Nat} {a b:Int} (h:gF0 w mb a b) (a' b':Int):gF0 ((w.setCell ⟨mb,0,none⟩ (.int .i64 a')).setCell ⟨mb,1,none⟩ (.int .i64 b')) mb a' b':=
 dF0 (j:=1) _ (dF0 (j:=0) (.int .i64 a') h)
theorem gR1 {w:World} {base:Nat} {e t:TypeId} {size:Nat} {v:Value} {n:Nat} {xs:List Value} {mb j:Nat} {vs:Array Value} {u:Value} (h:w.ownsRow base e size v n xs) (hb:w.heap[mb]? = some (.cells vs t (0,0))) (ht:e≠t):(w.setCell ⟨mb,j,none⟩ u).ownsRow base e size v n xs:=by
 refine ⟨h.1,h.2.imp id (fun ⟨g,cap,cur,e1,hg,hh,r⟩=>⟨g,cap,cur,e1,hg,(Below.heap_setCell _ _ _ _ (fun e2=>?_)).trans hh,r⟩)⟩;have e3:g=mb:=e2;rw [e3,hb] at hh;simp at hh;exact ht hh.2.symm
theorem pS1 {w:World} {base:Nat} {e:TypeId} {size:Nat} {v:Value} {n:Nat} {xs:List Value} {B:Nat} {l:List Ord} {more:Int} (h:w.ownsRow base e size v n xs) (hL:cM0 w B l more):∀k,v.ownBlock=some k→(some B:Option Nat)≠some k:=fun k hk e2=>by
 obtain ⟨D,⟨es,clock,e1,_⟩,_⟩:=hL;rcases h.2 with ⟨rfl,_⟩ | ⟨g,cap,cur,rfl,_,hh,_⟩
 ·simp [Value.ownBlock] at hk
 ·simp [Value.ownBlock] at hk;injection e2 with e2;subst hk;subst e2;rw [hh] at e1;simp at e1
theorem pT1 {o:Ord} {F:List Ord} {k:Nat} (h:k<F.length) (ho:oAt F k=o) (hk:o.kind=2):andB o (sumQ mkBB (F.take k))=sumQ mkBB (F.take (k+1)):=by
 rw [pQ0 _ h,ho];unfold andB mkBB
 by_cases hs:o.side=1 <;> simp [hs,hk]
theorem pU1 {o:Ord} {F:List Ord} {k:Nat} (h:k<F.length) (ho:oAt F k=o) (hk:o.kind=2):andS o (sumQ mkSB (F.take k))=sumQ mkSB (F.take (k+1)):=by
 rw [pQ0 _ h,ho];unfold andS mkSB
 by_cases hs:o.side=1 <;> simp [hs,hk]
theorem lG1 {o:Ord} (l:List Ord) (hk:o.kind≠2):andB o (sumQ (cY0 o.price) l)=sumQ (cY0 o.price) (l++[o]):=by
 rw [iC0];unfold andB cY0
 by_cases hs:o.side=1 <;> simp [hs,hk]
theorem lH1 {o:Ord} (l:List Ord) (hk:o.kind≠2):andS o (sumQ (eB0 o.price) l)=sumQ (eB0 o.price) (l++[o]):=by
 rw [iC0];unfold andS eB0
 by_cases hs:o.side=1 <;> simp [hs,hk]
theorem xY0 {F:List Ord} {k:Nat} (h:k<F.length):F.take (k+1)=F.take k++[oAt F k]:=by rw [List.take_succ_eq_append_getElem h,dL0 h]
theorem lI1 {o:Ord} (h:okO o=true) (hk:o.kind≠2):cZ0 o=true:=by unfold cZ0;rw [h];simp [hk]
theorem gS1 (w:World) (o:Obj) (more:Int) (hm:¬0<more):cM0 ((w.alloc o).alloc (.map #[] 0)) (w.heap.size+1) [] more:=by
 have h:=World.ownsMap_made (w.alloc o) Tryz.prog 3 lotR;rw [show (w.alloc o).heap.size=w.heap.size+1 by simp] at h;exact ⟨_,h.mono (by simp),⟨_,rfl⟩,LotD.start hm⟩
theorem gT1 (w:World) (o:Obj) {more:Int} (hm:0<more) (hw:(Lit.int .i64 more).wf=true):
  ∃w',(Instr.mapUpdate 194 (.map (some (w.heap.size+1))) (.int .i64 more) (.agg #[.int .i64 0,.int .i64 0])).run Tryz.prog ((w.alloc o).alloc (.map #[] 0))=.ok () w'∧cM0 w' (w.heap.size+1) [] more∧((w.alloc o).alloc (.map #[] 0)).grownBy w' (some (w.heap.size+1)):=by
 have h:=World.ownsMap_made (w.alloc o) Tryz.prog 3 lotR;rw [show (w.alloc o).heap.size=w.heap.size+1 by simp] at h;obtain ⟨w',hr,ho',hg⟩:=h.update Tryz.cu_keyInt Tryz.underlying194 (by unfold maxLen;omega) (Tryz.cu_keyIs hw) (xW0 _ _);exact ⟨w',hr,⟨_,ho'.mono (by simp),⟨_,rfl⟩,LotD.more hm⟩,hg⟩
set_option maxRecDepth 4000 in
set_option maxHeartbeats 4000000 in
theorem tP1 (a:Option Addr) (cap:Nat) (l:List Ord) (more:Int) (w:World) (h:cR0 w a l) (hl:l.length≤1000) (hw:∀o∈l,wf64 o.price) (hm:wf64 more):
  Calls Tryz.prog 72 #[.slice a l.length cap,.int .i64 more] w fun e w'=>∃v',e=.returned v'∧w'.ownsRow w.heap.size 189 3 v' (aR0 l more).length (ptV (aR0 l more))∧Below w.heap.size w w':=by
 have HA:Hid (cR0 w a l):=h;have HWF:Hid (∀o∈l,wf64 o.price):=hw;have hmm:=@run_makeMap Tryz.prog;clear h hw;go_enter Tryz.func72,Tryz.ntmps72;go_upto_if 11 with fail;go_cut [] from 10 to 14 (fun wc=>cM0 wc (w.heap.size+1) [] more∧gF0 wc w.heap.size 0 0∧Below w.heap.size w wc)
 case first=>
  have hb2:Below w.heap.size w ((w.alloc (.cells #[.int .i64 0,.int .i64 0] 193)).alloc (.map #[] 0)):=aS0 (bD0 w _) (bD0 _ _);have hk2:gF0 ((w.alloc (.cells #[.int .i64 0,.int .i64 0] 193)).alloc (.map #[] 0)) w.heap.size 0 0:=eA0 (heap_alloc_new w _) (bD0 _ _)
  by_cases hmp:0<more
  ·obtain ⟨w1,r1,hL1,hg1⟩:=gT1 w (.cells #[.int .i64 0,.int .i64 0] 193) hmp hm;have HL1:Hid (cM0 w1 (w.heap.size+1) [] more):=hL1;have HK1:Hid (gF0 w1 w.heap.size 0 0):=(hg1.block w.heap.size (lt_of_block hk2) (by simp)).trans hk2;have HB1:Hid (Below w.heap.size w w1):=hb2.grown hg1 (by simp;omega) (fun q hq=>by injection hq with hq;omega);clear hL1 hg1 hb2 hk2;go_wp2_with fail;go_meet;exact ⟨HL1.out,HK1.out,HB1.out⟩
  ·have HL1:Hid (cM0 ((w.alloc (.cells #[.int .i64 0,.int .i64 0] 193)).alloc (.map #[] 0)) (w.heap.size+1) [] more):=gS1 w _ more hmp;have HB1:Hid (Below w.heap.size w ((w.alloc (.cells #[.int .i64 0,.int .i64 0] 193)).alloc (.map #[] 0))):=hb2;have HK1:Hid (gF0 ((w.alloc (.cells #[.int .i64 0,.int .i64 0] 193)).alloc (.map #[] 0)) w.heap.size 0 0):=hk2;clear hb2 hk2;go_wp2_with fail;go_meet;exact ⟨HL1.out,HK1.out,HB1.out⟩
 case rest=>
  obtain ⟨hL,hK,hb⟩:=hcut;have HL:Hid (cM0 wc (w.heap.size+1) [] more):=hL;have HK:Hid (gF0 wc w.heap.size 0 0):=hK;have HB:Hid (Below w.heap.size w wc):=hb;clear hL hK hb hmm;go_wp2_with fail;refine (rZ1 a _ l wc (HA.out.below HB.out) hl).mono ?_;rintro e w2 ⟨v2,rfl,hown,hb2⟩;have HW2:Hid (w2.ownsRow w.heap.size 41 5 v2 (l.filter okO).length (oV (l.filter okO))):=bP0 hown HB.out.size;have HL2:Hid (cM0 w2 (w.heap.size+1) ((l.filter okO).take 0) more):=HL.out.below hb2;have HK2:Hid (gF0 w2 w.heap.size (sumQ mkBB ((l.filter okO).take 0)) (sumQ mkSB ((l.filter okO).take 0))):=HK.out.below hb2;have HB2:Hid (Below w.heap.size w w2):=aS0 HB.out hb2;have HF:Hid (∀o∈l.filter okO,okO o=true):=fun o ho=>(List.mem_filter.1 ho).2
  have HFW:Hid (∀o∈l.filter okO,wf64 o.price):=fun o ho=>HWF.out o (List.mem_filter.1 ho).1
  have hfl:(l.filter okO).length≤1000:=Nat.le_trans (List.length_filter_le _ _) hl;have HCU:Hid (∀xs:List Int,xs.Pairwise (· < ·)→(∀p,p∈xs↔p∈bA0 (l.filter okO) more)→ptsX xs (l.filter okO)=aR0 l more):=fun xs h1 h2=>cF1 h1 h2
  obtain ⟨ao,vc,rfl,_,_⟩:=aW0 hown;clear hown hb2 HL HK HB HA HWF;generalize l.filter okO=F at HW2 HL2 HK2 HF HFW hfl HCU ⊢;go_wp2_with fail;go_loopw [18] (fun i wr=>∃k:Nat,k≤F.length∧i=.int .i64 k∧gF0 wr w.heap.size (sumQ mkBB (F.take k)) (sumQ mkSB (F.take k))∧cM0 wr (w.heap.size+1) (F.take k) more∧wr.ownsRow w.heap.size 41 5 (.slice ao F.length vc) F.length (oV F)∧Below w.heap.size w wr) (fun i _=>F.length - (intOf i).toNat)
  case atStart=>exact ⟨0,Nat.zero_le _,rfl,HK2.out,HL2.out,HW2.out,HB2.out⟩
  case round=>
   obtain ⟨k,hk,rfl,hmk,hlo,hro,hb⟩:=hrel;have HK:Hid (gF0 wr w.heap.size (sumQ mkBB (F.take k)) (sumQ mkSB (F.take k))):=hmk;have HL:Hid (cM0 wr (w.heap.size+1) (F.take k) more):=hlo;have HR:Hid (wr.ownsRow w.heap.size 41 5 (.slice ao F.length vc) F.length (oV F)):=hro;have HB:Hid (Below w.heap.size w wr):=hb;clear HK2 HL2 HW2 HB2 hmk hlo hb
   by_cases hk1:k<F.length
   ·have hlt:(k:Int)<(F.length:Int):=by omega
    obtain ⟨g,cap',hv,d0,d1,d2,d3,d4⟩:=cD0 hro hk1;simp only [Value.slice.injEq,true_and] at hv;obtain ⟨rfl,rfl⟩:=hv;have HOK:Hid (okO (oAt F k)=true):=HF.out _ (by rw [dL0 hk1];exact List.getElem_mem hk1);have HPW:Hid (wf64 (oAt F k).price):=HFW.out _ (by rw [dL0 hk1];exact List.getElem_mem hk1);have HTS:Hid (F.take (k+1)=F.take k++[oAt F k]):=xY0 hk1;have hqb:=(iX0 HOK.out).2;have hs1:=cO0 (q:=mkBB) (xU0 HF.out k) (by rw [List.length_take];omega);have hs2:=cO0 (q:=mkSB) (xU0 HF.out k) (by rw [List.length_take];omega);have HMB:Hid ((oAt F k).kind=2→andB (oAt F k) (sumQ mkBB (F.take k))=sumQ mkBB (F.take (k+1))):=pT1 hk1 rfl;have HMS:Hid ((oAt F k).kind=2→andS (oAt F k) (sumQ mkSB (F.take k))=sumQ mkSB (F.take (k+1))):=pU1 hk1 rfl;have HNB:Hid ((oAt F k).kind≠2→sumQ mkBB (F.take (k+1))=sumQ mkBB (F.take k)):=fun e=>gH1 hk1 (by unfold mkBB;simp [e])
    have HNS:Hid ((oAt F k).kind≠2→sumQ mkSB (F.take (k+1))=sumQ mkSB (F.take k)):=fun e=>gH1 hk1 (by unfold mkSB;simp [e])
    have htl:(F.take k).length≤1000:=by rw [List.length_take];omega
    have HOT:Hid (∀o∈F.take k,okO o=true):=xU0 HF.out k;clear hro;generalize oAt F k=x at d0 d1 d2 d3 d4 HOK HPW HTS hqb HMB HMS HNB HNS;have hX:xX0 (wr.alloc (.cells #[.int .i64 x.id,.int .i64 x.side,.int .i64 x.kind,.int .i64 x.price,.int .i64 x.qty] 41)) wr.heap.size x:=heap_alloc_new wr _;have hbA:=bD0 wr (.cells #[.int .i64 x.id,.int .i64 x.side,.int .i64 x.kind,.int .i64 x.price,.int .i64 x.qty] 41)
    by_cases hkd:x.kind=2
    ·have hkb:(x.kind == 2)=true:=beq_iff_eq.2 hkd;have m0:=aP0 (j:=0) (HK.out.below hbA) rfl;have m1:=aP0 (j:=1) (HK.out.below hbA) rfl;have HLS:Hid (cM0 wr (w.heap.size+1) (F.take (k+1)) more):=by rw [HTS.out];exact HL.out.same hkd
     have HM1:Hid (andB x (sumQ mkBB (F.take k))=sumQ mkBB (F.take (k+1))):=HMB.out hkd;have HM2:Hid (andS x (sumQ mkSB (F.take k))=sumQ mkSB (F.take (k+1))):=HMS.out hkd;clear hX HMB HMS HNB HNS HL hkd;generalize sumQ mkBB (F.take k)=sb at hs1 HK m0 HM1;generalize sumQ mkSB (F.take k)=ssl at hs2 HK m1 HM2;go_wp2_with fail;have HX:Hid (xX0 (wr.alloc (.cells #[.int .i64 x.id,.int .i64 x.side,.int .i64 x.kind,.int .i64 x.price,.int .i64 x.qty] 41)) wr.heap.size x):=heap_alloc_new wr _;have HBA:Hid (Below wr.heap.size wr (wr.alloc (.cells #[.int .i64 x.id,.int .i64 x.side,.int .i64 x.kind,.int .i64 x.price,.int .i64 x.qty] 41))):=hbA;clear hbA;generalize wr.alloc (.cells #[.int .i64 x.id,.int .i64 x.side,.int .i64 x.kind,.int .i64 x.price,.int .i64 x.qty] 41)=V at m0 m1 HX HBA ⊢;refine (rY1 sb ssl x V (by omega) (by omega) (by omega)).mono ?_;rintro e w5 ⟨rfl,hb5⟩;have hk5:=(HK.out.below HBA.out).below hb5;have HK5:Hid (gF0 w5 w.heap.size sb ssl):=hk5;have n0:=aP0 (j:=0) hk5 rfl;have n1:=aP0 (j:=1) hk5 rfl;have f0:=bT0 (j:=0) hk5;have f1:=bT0 (j:=1) hk5;have hb05:=aS0 HBA.out hb5;have HL5:Hid (cM0 w5 (w.heap.size+1) (F.take (k+1)) more):=HLS.out.below hb05;have HR5:Hid (w5.ownsRow w.heap.size 41 5 (.slice (some ⟨g,0,none⟩) F.length vc) F.length (oV F)):=cB0 HR.out hb05 lR7;have HB5:Hid (Below w.heap.size w w5):=aS0 HB.out hb05;clear hk5 hb5 hb05 m0 m1 HX HBA HLS HK HR HB;rw [HM1.out,HM2.out];go_wp2_with fail;go_roundw
     case rel=>
      refine ⟨k+1,hk1,by go_num,HK5.out.set _ _,HL5.out.block ?_,gR1 (gR1 HR5.out HK5.out (by decide)) (dF0 (j:=0) _ HK5.out) (by decide),(HB5.out.setCell lR7 _).setCell lR7 _⟩;exact (Below.heap_setCell _ _ _ _ (by simp)).trans (Below.heap_setCell _ _ _ _ (by simp))
     case measure=>simp [intOf];omega
    ·have hkb:(x.kind == 2)=false:=beq_eq_false_iff_ne.2 hkd;have HM1:Hid (sumQ mkBB (F.take (k+1))=sumQ mkBB (F.take k)):=HNB.out hkd;have HM2:Hid (sumQ mkSB (F.take (k+1))=sumQ mkSB (F.take k)):=HNS.out hkd;have hq1:=cO0 (q:=cY0 x.price) HOT.out htl;have hq2:=cO0 (q:=eB0 x.price) HOT.out htl;have HA1:Hid (andB x (sumQ (cY0 x.price) (F.take k))=sumQ (cY0 x.price) (F.take k++[x])):=lG1 _ hkd;have HA2:Hid (andS x (sumQ (eB0 x.price) (F.take k))=sumQ (eB0 x.price) (F.take k++[x])):=lH1 _ hkd;have HNM:Hid (cZ0 x=true):=lI1 HOK.out hkd;clear HMB HMS HNB HNS;go_upto_region 10 with fail;have HX:Hid (xX0 (wr.alloc (.cells #[.int .i64 x.id,.int .i64 x.side,.int .i64 x.kind,.int .i64 x.price,.int .i64 x.qty] 41)) wr.heap.size x):=hX;have HBA:Hid (Below wr.heap.size wr (wr.alloc (.cells #[.int .i64 x.id,.int .i64 x.side,.int .i64 x.kind,.int .i64 x.price,.int .i64 x.qty] 41))):=hbA;have HLV:Hid (cM0 (wr.alloc (.cells #[.int .i64 x.id,.int .i64 x.side,.int .i64 x.kind,.int .i64 x.price,.int .i64 x.qty] 41)) (w.heap.size+1) (F.take k) more):=HL.out.below hbA;clear hX hbA d0 d1 d2 d3 d4;generalize wr.alloc (.cells #[.int .i64 x.id,.int .i64 x.side,.int .i64 x.kind,.int .i64 x.price,.int .i64 x.qty] 41)=V at HX HBA HLV ⊢;generalize wr.heap.size=xb at HX ⊢;have hlk:(Instr.lookup 194 (.map (some (w.heap.size+1))) (.int .i64 x.price) false).run Tryz.prog V.drew=.ok (.agg #[.int .i64 (sumQ (cY0 x.price) (F.take k)),.int .i64 (sumQ (eB0 x.price) (F.take k))]) V.drew:=(HLV.out.block (w':=V.drew) rfl).look HPW.out;have x0:=aP0 (j:=0) HX.out rfl;have x1:=aP0 (j:=1) HX.out rfl;have x2:=aP0 (j:=2) HX.out rfl;have x3:=aP0 (j:=3) HX.out rfl;have x4:=aP0 (j:=4) HX.out rfl;go_region_with (go_at_call 127;refine (rY1 _ _ x _ ?_ ?_ ?_).mono ?_;(omega);(omega);(omega);rintro e w5 ⟨rfl,hb5⟩;rw [HA1.out,HA2.out];(have y3:=aP0 (j:=3) (eA0 (w:=V.drew) HX.out hb5) rfl;obtain ⟨w6,hr6,hL6,hg6⟩:=cM0.store (HLV.out.block (w':=w5) (hb5.block _ HLV.out.lt)) HNM.out HPW.out htl))
     all_goals
      have HL6:Hid (cM0 w6 (w.heap.size+1) (F.take (k+1)) more):=by rw [HTS.out];exact hL6
      have hk5:=(HK.out.below HBA.out).below (w:=V) (w':=V.drew) (Below.refl _ V).drew;have hk6:=hk5.below hb5;have HK6:Hid (gF0 w6 w.heap.size (sumQ mkBB (F.take k)) (sumQ mkSB (F.take k))):=(hg6.block w.heap.size (lt_of_block hk6) (by simp)).trans hk6;have hr5:=cB0 HR.out (aS0 HBA.out (aS0 (w1:=V.drew) (Below.refl _ V).drew hb5)) lR7;have HR6:Hid (w6.ownsRow w.heap.size 41 5 (.slice (some ⟨g,0,none⟩) F.length vc) F.length (oV F)):=vO0 hr5 hg6 (pS1 hr5 (HLV.out.block (w':=w5) (hb5.block _ HLV.out.lt)));have hb05:=aS0 HB.out (aS0 HBA.out (aS0 (w1:=V.drew) (Below.refl _ V).drew hb5));have HB6:Hid (Below w.heap.size w w6):=hb05.grown hg6 hb05.size (fun q hq=>by injection hq with hq;omega);clear hb05 hr5 hk6 hk5 hL6 hg6 hr6 y3 hb5 x0 x1 x2 x3 x4 hlk;go_wp2_with fail;go_roundw
      case rel=>exact ⟨k+1,hk1,by go_num,by rw [HM1.out,HM2.out];exact HK6.out,HL6.out,HR6.out,HB6.out⟩
      case measure=>simp [intOf];omega
   ·obtain rfl:k=F.length:=by omega
    rw [List.take_length] at HK HL;have m0:=aP0 (j:=0) HK.out rfl;have m1:=aP0 (j:=1) HK.out rfl;clear hro;go_wp2_with fail;refine (lF1 _ F more wr HL.out HF.out hfl).mono ?_;rintro e w7 ⟨v7,xs,rfl,hx1,hx2,hown7,hb7⟩
    have HO7:Hid (w7.ownsRow w.heap.size 189 3 v7 (aR0 l more).length (ptV (aR0 l more))):=by
     rw [←HCU.out xs hx1 hx2];exact bP0 hown7 HB.out.size
    have HB7:Hid (Below w.heap.size w w7):=aS0 HB.out hb7;clear hx1 hx2 hown7 hb7 m0 m1;go_wp2_with fail;go_ret;exact ⟨_,rfl,HO7.out,HB7.out⟩
end Go.Proofs.YtjdkagafdnchhaaGreatDoor
