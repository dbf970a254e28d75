/- DeskPieces: a part of the proof, packed (the readable form: the templates). -/
import Derived.Test.YtaelphbianmckaaGreatDoorQA
import Derived.Test.YtaelphbianmckaaGreatDoorQC
import Derived.Deep.DeepCutAuto
namespace Go.Proofs.YtaelphbianmckaaGreatDoor
open Go.RowKit
structure BookG (w:World) (bb ab mb n:Nat) (vs vf v0 v1:Value) (rs:List Sot) (fr:List Nat) (Sm Sr:Nat→List Ly):Prop where
 box:w.heap[bb]? = some (.cells #[.pointer (some ⟨ab,0,none⟩),.map (some mb),v0,v1] 233 (0,0))
 ar:ArOr w ab 100 vs vf rs fr
 map:eB0 w mb n Sm
 row0:w.ownsRow 0 240 2 v0 (Sr 0).length (hV (Sr 0))
 row1:w.ownsRow 0 240 2 v1 (Sr 1).length (hV (Sr 1))
 apart:∀k,v0.ownBlock=some k→v1.ownBlock≠some k
section
variable {w w' w1:World} {bb ab mb n s g cap:Nat} {vs vf v0 v1:Value} {rs:List Sot} {fr:List Nat} {S Sm Sr:Nat→List Ly}
theorem BookAt.mid (h:BookAt w bb ab mb n vs vf v0 v1 rs fr S):BookG w bb ab mb n vs vf v0 v1 rs fr S S:=⟨h.box,h.ar,h.map,h.row0,h.row1,h.apart⟩
theorem BookG.done (h:BookG w bb ab mb n vs vf v0 v1 rs fr S S):BookAt w bb ab mb n vs vf v0 v1 rs fr S:=⟨h.box,h.ar,h.map,h.row0,h.row1,h.apart⟩
theorem BookG.out {T:Nat→Prop} (h:BookG w bb ab mb n vs vf v0 v1 rs fr Sm Sr) (ho:Out T w w') (hT:∀k,pbB bb ab mb vs vf v0 v1 k→¬T k):BookG w' bb ab mb n vs vf v0 v1 rs fr Sm Sr:=
 ⟨aE0 h.box ho (hT bb (Or.inl rfl)),h.ar.out ho (fun k hk=>hT k (Or.inr (Or.inl hk))),h.map.same (ho.block mb h.map.lt (hT mb (Or.inr (Or.inr (Or.inl rfl))))),
  aL0 h.row0 ho (fun k hk=>hT k (Or.inr (Or.inr (Or.inr (Or.inl hk))))),aL0 h.row1 ho (fun k hk=>hT k (Or.inr (Or.inr (Or.inr (Or.inr hk))))),h.apart⟩
theorem BookG.rowIs (h:BookG w bb ab mb n vs vf v0 v1 rs fr Sm Sr) (hs:s<2):w.ownsRow 0 240 2 (vAt v0 v1 s) (Sr s).length (hV (Sr s))∧w.cell? ⟨bb,2+s,none⟩=some (vAt v0 v1 s)∧w.frozen? ⟨bb,2+s,none⟩=false:=by
 match s,hs with
 | 0,_=>exact ⟨h.row0,aA0 (j:=2) h.box rfl,aB0 h.box⟩
 | 1,_=>exact ⟨h.row1,aA0 (j:=3) h.box rfl,aB0 h.box⟩
theorem BookG.rowNotBox (h:BookG w bb ab mb n vs vf v0 v1 rs fr Sm Sr) (hs:s<2):(vAt v0 v1 s).ownBlock≠some bb:=aF0 (h.rowIs hs).1 h.box (by decide)
theorem BookG.rowNotMap (h:BookG w bb ab mb n vs vf v0 v1 rs fr Sm Sr) (hs:s<2):(vAt v0 v1 s).ownBlock≠some mb:=cD0 (h.rowIs hs).1 h.map
theorem BookG.rowNotAr (h:BookG w bb ab mb n vs vf v0 v1 rs fr Sm Sr) (hs:s<2) {k:Nat} (hk:(vAt v0 v1 s).ownBlock=some k):¬aoB ab vs vf k:=fun e=>by
 rcases e with e | e | e
 ·exact aF0 (h.rowIs hs).1 (e ▸ h.ar.box) (by decide) hk
 ·exact bJ0 (h.rowIs hs).1 h.ar.slots (by decide) hk e
 ·exact bJ0 (h.rowIs hs).1 h.ar.free (by decide) hk e
theorem BookG.newMap {n':Nat} {Sm':Nat→List Ly} (h:BookG w bb ab mb n vs vf v0 v1 rs fr Sm Sr) (ho:Out (fun j=>j=mb) w w') (hm:eB0 w' mb n' Sm'):BookG w' bb ab mb n' vs vf v0 v1 rs fr Sm' Sr:=
 ⟨aE0 h.box ho (h.map.ne h.box),h.ar.out ho (fun k hk e=>by
   have e':k=mb:=e;subst e';rcases hk with e | e | e
   ·exact h.map.ne h.ar.box e.symm
   ·exact cD0 h.ar.slots h.map e
   ·exact cD0 h.ar.free h.map e),hm,aL0 h.row0 ho (fun k hk e=>cD0 h.row0 h.map (by rw [←show k=mb from e];exact hk)),aL0 h.row1 ho (fun k hk e=>cD0 h.row1 h.map (by rw [←show k=mb from e];exact hk)),h.apart⟩
theorem BookG.newAr {vs' vf':Value} {rs':List Sot} {fr':List Nat} (h:BookG w bb ab mb n vs vf v0 v1 rs fr Sm Sr) (ho:Out (aoB ab vs vf) w w') (ha:ArOr w' ab 100 vs' vf' rs' fr'):BookG w' bb ab mb n vs' vf' v0 v1 rs' fr' Sm Sr:=
 ⟨aE0 h.box ho (fun e=>by
   rcases e with e | e | e
   ·exact dV0 h.box h.ar.box (by decide) e
   ·exact aF0 h.ar.slots h.box (by decide) e
   ·exact aF0 h.ar.free h.box (by decide) e),ha,h.map.same (ho.block mb h.map.lt (fun e=>by
   rcases e with e | e | e
   ·exact h.map.ne h.ar.box e.symm
   ·exact cD0 h.ar.slots h.map e
   ·exact cD0 h.ar.free h.map e)),aL0 h.row0 ho (fun _ hk=>h.rowNotAr (s:=0) (by decide) hk),aL0 h.row1 ho (fun _ hk=>h.rowNotAr (s:=1) (by decide) hk),h.apart⟩
def rowV (v v':Value) (s t:Nat):Value:=if s=t then v' else v
theorem BookG.newRow {l':List Ly} (h:BookG w bb ab mb n vs vf v0 v1 rs fr Sm Sr) (hs:s<2) (hr:w1.ownsRow 0 240 2 (.slice (some ⟨g,0,none⟩) l'.length cap) l'.length (hV l'))
  (ho:Out (fun k=>(vAt v0 v1 s).ownBlock=some k) w w1) (hg:(vAt v0 v1 s).ownBlock=some g∨w.heap.size≤g):
  BookG (w1.setCell ⟨bb,2+s,none⟩ (.slice (some ⟨g,0,none⟩) l'.length cap)) bb ab mb n vs vf (rowV v0 (.slice (some ⟨g,0,none⟩) l'.length cap) s 0) (rowV v1 (.slice (some ⟨g,0,none⟩) l'.length cap) s 1) rs fr Sm (upS Sr s l')
  ∧Out (fun k=>k=bb∨(vAt v0 v1 s).ownBlock=some k) w (w1.setCell ⟨bb,2+s,none⟩ (.slice (some ⟨g,0,none⟩) l'.length cap)):=by
 have hbx:=aE0 h.box ho (h.rowNotBox hs);have o2:=aN0 w1 ⟨bb,2+s,none⟩ (.slice (some ⟨g,0,none⟩) l'.length cap);have har:=h.ar.out ho (fun k hk e=>h.rowNotAr hs e hk);have hma:=h.map.same (ho.block mb h.map.lt (h.rowNotMap hs))
 have har2:=har.out o2 (fun k hk e=>by
  have e':k=bb:=e;subst e';rcases hk with e | e | e
  ·exact dV0 hbx har.box (by decide) e
  ·exact aF0 har.slots hbx (by decide) e
  ·exact aF0 har.free hbx (by decide) e)
 have hma2:=hma.same (o2.block mb hma.lt (fun e=>hma.ne hbx (show mb=bb from e).symm));have hr2:(w1.setCell ⟨bb,2+s,none⟩ (.slice (some ⟨g,0,none⟩) l'.length cap)).ownsRow 0 240 2 (.slice (some ⟨g,0,none⟩) l'.length cap) l'.length (hV l'):=aL0 hr o2 (fun k hk e=>aF0 hr hbx (by decide) (by rw [←show k=bb from e];exact hk));refine ⟨?_,(ho.mono (fun k hk=>Or.inr hk)).trans (o2.mono (fun k hk=>Or.inl hk)) (Went.refl _ _)⟩
 match s,hs with
 | 0,_=>
  have q1:w1.ownsRow 0 240 2 v1 (Sr 1).length (hV (Sr 1)):=aL0 h.row1 ho (fun k hk e=>h.apart k e hk);have q2:=aL0 q1 o2 (fun k hk e=>aF0 q1 hbx (by decide) (by rw [←show k=bb from e];exact hk));refine ⟨aH0 (j:=2) _ hbx,har2,hma2,hr2,q2,fun k hk=>?_⟩;have e':g=k:=by simpa [rowV,Value.ownBlock] using hk
  subst e';rcases hg with hg | hg
  ·exact h.apart _ hg
  ·exact fun e=>by have:=(h.row1.lt _ e).2;omega
 | 1,_=>
  have q1:w1.ownsRow 0 240 2 v0 (Sr 0).length (hV (Sr 0)):=aL0 h.row0 ho (fun k hk e=>h.apart k hk e);have q2:=aL0 q1 o2 (fun k hk e=>aF0 q1 hbx (by decide) (by rw [←show k=bb from e];exact hk));refine ⟨aH0 (j:=3) _ hbx,har2,hma2,q2,hr2,fun k hk=>?_⟩;intro hk';have e':g=k:=by simpa [rowV,Value.ownBlock] using hk'
  subst e';rcases hg with hg | hg
  ·exact h.apart _ hk hg
  ·have:=(h.row0.lt _ hk).2;omega
theorem sQ0 {v':Value} (hs:s<2) (hg:∀k,v'.ownBlock=some k→(vAt v0 v1 s).ownBlock=some k∨w.heap.size≤k):Went w (fun k=>v0.ownBlock=some k∨v1.ownBlock=some k) (fun k=>(rowV v0 v' s 0).ownBlock=some k∨(rowV v1 v' s 1).ownBlock=some k):=by
 match s,hs with
 | 0,_=>
  rintro k (hk | hk)
  ·exact (hg k hk).imp Or.inl id
  ·exact Or.inl (Or.inr hk)
 | 1,_=>
  rintro k (hk | hk)
  ·exact Or.inl (Or.inl hk)
  ·exact (hg k hk).imp Or.inr id
theorem vL0 (hs:s<2) {k:Nat} (h:(vAt v0 v1 s).ownBlock=some k):v0.ownBlock=some k∨v1.ownBlock=some k:=by
 match s,hs with
 | 0,_=>exact Or.inl h
 | 1,_=>exact Or.inr h
end
theorem jY0 {w:World} {bb s:Nat} {a m v0 v1:Value} {t:TypeId} (h:w.heap[bb]? = some (.cells #[a,m,v0,v1] t (0,0))) (hs:s<2):w.cell? ⟨bb,2+s,none⟩=some (vAt v0 v1 s)∧w.frozen? ⟨bb,2+s,none⟩=false:=by
 match s,hs with
 | 0,_=>exact ⟨aA0 (j:=2) h rfl,aB0 h⟩
 | 1,_=>exact ⟨aA0 (j:=3) h rfl,aB0 h⟩
theorem cG1 (bb ab mb nn s:Nat) (vs vf v0 v1:Value) (rs:List Sot) (fr:List Nat) (S:Nat→List Ly) (o:Ord) (we W:World) (hs:s<2) (hlen:(S s).length≤1000)
  (hth:∀x∈S s,soAt rs x.slot=(some x.o,x.age)) (hB:BookAt we bb ab mb nn vs vf v0 v1 rs fr S) (hb:Below we.heap.size we W):
  Calls Tryz.prog 276 #[.pointer (some ⟨bb,0,none⟩),.int .i64 s,o.agg] W fun e w1=>e=.returned (.int .i64 (eU0 o ((S s).map Ly.o)))∧Below W.heap.size W w1∧Below we.heap.size we w1∧w1.cell? ⟨bb,2+s,none⟩=some (vAt v0 v1 s)∧bb<w1.heap.size:=
 (iI1 bb ab mb nn s vs vf v0 v1 rs fr S o hs hlen hth W (hB.below hb lR7)).mono fun _ _ ⟨h1,h2⟩=>
  have h3:=aC0 hb h2
  ⟨h1,h2,h3,(jY0 (hB.below h3 lR7).box hs).1,lt_of_block (hB.below h3 lR7).box⟩
theorem sR0 (vb i bb ab mb nn s:Nat) (vs vf v0 v1:Value) (rs:List Sot) (fr:List Nat) (S:Nat→List Ly) (x:Ly) (we W:World) (hs:s<2) (hlen:(S s).length≤1000) (hi:i≤(S s).length)
  (hB:BookAt we bb ab mb nn vs vf v0 v1 rs fr S) (hb:Below we.heap.size we W) (hvb:W.heap[vb]? = some (.cells #[.int .i64 x.slot,.int .i64 x.age] 240 (0,0))) (hvl:we.heap.size≤vb):
  Calls Tryz.prog 275 #[vAt v0 v1 s,.int .i64 i,.slice (some ⟨vb,0,none⟩) 1 1] W fun e w1=>∃g cap,e=.returned (.slice (some ⟨g,0,none⟩) (cZ0 i x (S s)).length cap)
   ∧w1.ownsRow 0 240 2 (.slice (some ⟨g,0,none⟩) (cZ0 i x (S s)).length cap) (cZ0 i x (S s)).length (hV (cZ0 i x (S s)))∧Out (fun k=>(vAt v0 v1 s).ownBlock=some k) we w1∧((vAt v0 v1 s).ownBlock=some g∨we.heap.size≤g)
   ∧Out (fun k=>k=bb∨(vAt v0 v1 s).ownBlock=some k) we w1∧w1.cell? ⟨bb,2+s,none⟩=some (vAt v0 v1 s)∧w1.frozen? ⟨bb,2+s,none⟩=false:=by
 have hrow:=(hB.mid.rowIs hs).1;refine (zY0 vb i (vAt v0 v1 s) (S s) x W (aS0 hrow hb lR7) hlen hi hvb (fun e=>by have:=(hrow.lt _ e).2;omega)).mono ?_;rintro e w1 ⟨v',rfl,g,cap,rfl,h1,h2,h3⟩;have h4:Out (fun k=>(vAt v0 v1 s).ownBlock=some k) we w1:=(Out.of_below hb lR7).trans h2 (Went.refl _ _);obtain ⟨h5,h6⟩:=jY0 (aE0 hB.box h4 (hB.mid.rowNotBox hs)) hs;exact ⟨g,cap,rfl,h1,h4,h3.imp id (fun h=>Nat.le_trans hb.size h),h4.mono (fun k hk=>Or.inr hk),h5,h6⟩
section
variable {P:Program} {ops:Array Oper} {Q:Exit→Act→World→Prop} {md:Region.Mode} {S:World→Prop} {L:Nat→Bool}
def gO0 (P:Program) (md:Region.Mode) (ops:Array Oper) (Q:Exit→Act→World→Prop) (S:World→Prop) (L:Nat→Bool):Nat→Array Bool→Act→World→Prop
 | 0,listed,a,w=>Region.ready md ops listed=[]∧Q .normal a w
 | fuel+1,listed,a,w=>(Region.ready md ops listed=[]→Q .normal a w)∧∀i∈Region.ready md ops listed,wpOp P ops Q i (fun a' w'=>(L i=false→S w')∧gO0 P md ops Q S L fuel (listed.setIfInBounds i true) a' w') a w
theorem jZ0:∀(fuel:Nat) (listed:Array Bool) (a:Act) (w:World),gO0 P md ops Q S L fuel listed a w→wpAny P md ops Q fuel listed a w
 | 0,_,_,_,h=>h
 | fuel+1,_,_,_,h=>⟨h.1,fun i hi=>wpOp_mono (fun a' w' h'=>jZ0 fuel _ a' w' h'.2) (h.2 i hi)⟩
def pQ0 (md:Region.Mode) (ops:Array Oper):Nat→Nat→Nat→Bool
 | 0,_,_=>false
 | n+1,j,i=>match ops[j]? with
  | some o=>o.after.any fun e=>Region.binds md e&& (e.on == i || pQ0 md ops n e.on i)
  | none=>false
theorem pR0 {n j i:Nat} (h:pQ0 md ops (n+1) j i=true):∃oj,ops[j]? = some oj∧∃e∈oj.after,Region.binds md e=true∧(e.on=i∨pQ0 md ops n e.on i=true):=by
 unfold pQ0 at h;cases hj:ops[j]? with
 | none=>rw [hj] at h;cases h
 | some oj=>
  rw [hj] at h;obtain ⟨e,he,h1⟩:=Array.any_eq_true'.1 h;simp only [Bool.and_eq_true,Bool.or_eq_true,beq_iff_eq] at h1;exact ⟨oj,rfl,e,he,h1⟩
def Down (md:Region.Mode) (ops:Array Oper) (listed:Array Bool):Prop:=∀(j:Nat) (oj:Oper),ops[j]? = some oj→listed.getD j false=true→∀e∈oj.after,Region.binds md e=true→listed.getD e.on false=true
theorem Down.more {listed:Array Bool} {j:Nat} (h:Down md ops listed) (hj:j∈Region.ready md ops listed):Down md ops (listed.setIfInBounds j true):=by
 obtain ⟨_,oj,hoj,hall⟩:=mem_ready.1 hj;intro k ok hk hl e he hb;apply getD_set_true
 by_cases hkj:j=k
 ·subst hkj;rw [hoj] at hk;injection hk with hk;subst hk;exact hall e he hb
 ·rw [getD_set_ne false hkj] at hl;exact h k ok hk hl e he hb
theorem xS0 {listed:Array Bool} {i:Nat} (hd:Down md ops listed) (hi:listed.getD i false=false):∀(n j:Nat),pQ0 md ops n j i=true→listed.getD j false=false
 | 0,_,h=>by cases h
 | n+1,j,h=>by
  obtain ⟨oj,hoj,e,he,hb,h1⟩:=pR0 h;cases hc:listed.getD j false with
  | false=>rfl
  | true=>
   have h2:=hd j oj hoj hc e he hb;rcases h1 with h1 | h1
   ·rw [h1,hi] at h2;cases h2
   ·rw [xS0 hd hi n _ h1] at h2;cases h2
def aB1 (md:Region.Mode) (ops:Array Oper) (L:Nat→Bool) (i:Nat):Bool:=(List.range ops.size).all fun j=>!L j || pQ0 md ops 4 j i
theorem xT0 {listed:Array Bool} {i j:Nat} (h:aB1 md ops L i=true) (hd:Down md ops listed) (hi:listed.getD i false=false) (hj:j∈Region.ready md ops listed):L j=false:=by
 obtain ⟨_,oj,hoj,hall⟩:=mem_ready.1 hj;have hlt:=(Array.getElem?_eq_some_iff.1 hoj).1;have h0:=List.all_eq_true.1 h j (List.mem_range.2 hlt);cases hL:L j with
 | false=>rfl
 | true=>
  rw [hL] at h0;obtain ⟨oj',hoj',e,he,hb,h1⟩:=pR0 (n:=3) (by simpa using h0);rw [hoj] at hoj';injection hoj' with hoj';subst hoj';have h2:=hall e he hb;rcases h1 with h1 | h1
  ·rw [h1,hi] at h2;cases h2
  ·rw [xS0 hd hi 3 _ h1] at h2;cases h2
def vM0 (md:Region.Mode) (ops:Array Oper) (listed:Array Bool):Bool:=(List.range ops.size).all fun j=>!listed.getD j false || (match ops[j]? with | some o=>o.after.all fun e=>!Region.binds md e || listed.getD e.on false | none=>true)
theorem nO0 {listed:Array Bool} (h:vM0 md ops listed=true):Down md ops listed:=fun j oj hoj hl e he hb=>by
 have hlt:=(Array.getElem?_eq_some_iff.1 hoj).1;have h0:=List.all_eq_true.1 h j (List.mem_range.2 hlt);simp only [hl,hoj,Bool.not_true,Bool.false_or] at h0;have h1:=Array.all_eq_true'.1 h0 e he
 simpa [hb] using h1
theorem sS0 {i:Nat} {oi:Oper} {v:Value} (hi:ops[i]? = some oi) (hsel:∀(j:Nat) (o:Oper) cs b,ops[j]? = some o→o.op≠.select cs b) (hQ:∀c a w,Q (.panic c) (a.put oi.dst v) w→Q (.panic c) a w) (hl:aB1 md ops L i=true):
  ∀(fuel:Nat) (listed:Array Bool) (a:Act) (w:World),
   (∀j oj,ops[j]? = some oj→j≠i→listed.getD j true=false→(∀e∈oj.after,Region.binds md e=true→e.on≠i)→oi.apart ops oj=true)→Down md ops listed→
   i∈Region.ready md ops listed→YieldsIf P ops S oi v a→S w→gO0 P md ops Q S L fuel (listed.setIfInBounds i true) (a.put oi.dst v) w→gO0 P md ops Q S L (fuel+1) listed a w:=by
 intro fuel
 induction fuel with
 | zero=>
  intro listed a w _ _ hr hy hS H;refine ⟨fun h=>(by rw [h] at hr;cases hr),fun j hj=>?_⟩
  by_cases hji:j=i
  ·subst hji;exact hy.wpOp hi hS ⟨fun _=>hS,H⟩
  ·have:=ready_mono hj hji;rw [H.1] at this;cases this
 | succ fuel ih=>
  intro listed a w hfree hd hr hy hS H;refine ⟨fun h=>(by rw [h] at hr;cases hr),fun j hj=>?_⟩
  by_cases hji:j=i
  ·subst hji;exact hy.wpOp hi hS ⟨fun _=>hS,H⟩
  obtain ⟨hjun,oj,hoj,hall⟩:=mem_ready.1 hj;have hun:listed.getD i true=false:=(mem_ready.1 hr).1
  have hnot:∀e∈oj.after,Region.binds md e=true→e.on≠i:=fun e he hb heq=>by
   have h1:=hall e he hb;rw [heq] at h1;rcases Nat.lt_or_ge i listed.size with h' | h'
   ·simp [h'] at hun h1;rw [hun] at h1;cases h1
   ·simp [Array.getElem?_eq_none h'] at h1
  have hLj:L j=false:=xT0 hl hd (by
   rcases Nat.lt_or_ge i listed.size with h' | h'
   ·simpa [h'] using hun
   ·simp [Array.getElem?_eq_none h']) hj
  have h2:=wpOp_putIf hoj (hfree j oj hoj hji hjun hnot) (fun cs b=>hsel i oi cs b hi) (fun cs b=>hsel j oj cs b hoj) hQ hy (H.2 j (ready_mono hj hji))
  refine wpOp_mono (fun a' w' h3=>⟨fun _=>h3.2.1 hLj,ih (listed.setIfInBounds j true) a' w' (fun k ok hk hki hku hno=>hfree k ok hk hki (by
   by_cases hjk:j=k
   ·subst hjk;exact hjun
   ·rw [getD_set_ne true hjk] at hku;exact hku) hno) (hd.more hj) (ready_mono hr (Ne.symm hji)) h3.1 (h3.2.1 hLj) ?_⟩) h2
  rw [Array.setIfInBounds_comm _ _ hji];exact h3.2.2
theorem vN0 {i:Nat} {oi:Oper} {v:Value} {fuel:Nat} {listed:Array Bool} {a:Act} {w:World} (hi:ops[i]? = some oi) (hs:Region.noSelect ops=true) (hf:Region.free md ops listed i=true) (hr:(Region.ready md ops listed).contains i=true) (hl:aB1 md ops L i=true) (hd:vM0 md ops listed=true)
  (hQ:∀c a w,Q (.panic c) (a.put oi.dst v) w→Q (.panic c) a w) (hw:Region.wanted oi (yielded ops a.tmps)=true) (hy:∀w,S w→(execOp a.eval oi).run P w=.ok (.value v) w) (hS:S w)
  (h:gO0 P md ops Q S L fuel (listed.setIfInBounds i true) (a.put oi.dst v) w):gO0 P md ops Q S L (fuel+1) listed a w:=
 sS0 hi (Region.noSelect_spec hs) hQ hl fuel listed a w (Region.free_spec hi hf) (nO0 hd) (by simpa using hr) (Or.inl ⟨hw,hy⟩) hS h
theorem tkL7 {i:Nat} {oi:Oper} {v:Value} {fuel:Nat} {listed:Array Bool} {a:Act} {w:World} (hi:ops[i]? = some oi) (hk:(Region.noSelect ops&& Region.free md ops listed i&& (Region.ready md ops listed).contains i&& aB1 md ops L i&& vM0 md ops listed)=true)
  (hQ:∀c a w,Q (.panic c) (a.put oi.dst v) w→Q (.panic c) a w) (hw:Region.wanted oi (yielded ops a.tmps)=true) (hy:∀w,S w→(execOp a.eval oi).run P w=.ok (.value v) w) (hS:S w)
  (h:gO0 P md ops Q S L fuel (listed.setIfInBounds i true) (a.put oi.dst v) w):gO0 P md ops Q S L (fuel+1) listed a w:=by
 simp only [Bool.and_eq_true] at hk;exact vN0 hi hk.1.1.1.1 hk.1.1.1.2 hk.1.1.2 hk.1.2 hk.2 hQ hw hy hS h
def aI0 (P:Program) (md:Region.Mode) (ops:Array Oper) (Q:Exit→Act→World→Prop) (S:World→Prop) (L:Nat→Bool) (fuel:Nat) (listed:Array Bool) (a:Act) (w:World) (rs:List Nat):Prop:=
 ∀i∈rs,wpOp P ops Q i (fun a' w'=>(L i=false→S w')∧gO0 P md ops Q S L fuel (listed.setIfInBounds i true) a' w') a w
theorem aI0.nil {fuel:Nat} {listed:Array Bool} {a:Act} {w:World}:aI0 P md ops Q S L fuel listed a w []:=fun _ h=>by cases h
theorem aI0.cons {fuel:Nat} {listed:Array Bool} {a:Act} {w:World} {i:Nat} {o:Oper} {rs:List Nat} (ho:ops[i]? = some o)
  (h:∀K':Act→World→Prop,Shut (∀a w,(L i=false→S w)→((L i=false→S w)→gO0 P md ops Q S L fuel (listed.setIfInBounds i true) a w)→K' a w)→if Region.wanted o (yielded ops a.tmps)=true then Oper.wp P o a w K' Q else K' (a.put o.dst undef) w)
  (hs:aI0 P md ops Q S L fuel listed a w rs):aI0 P md ops Q S L fuel listed a w (i::rs):=fun j hj=>by
 rcases List.mem_cons.1 hj with rfl | hj
 ·exact wpOp_step ho (fun K' hK=>h K' (fun a w hS hW=>hK a w ⟨hS,hW hS⟩))
 ·exact hs j hj
theorem aU0 {rs:List Nat} {fuel:Nat} {listed:Array Bool} {a:Act} {w:World} (hr:Region.ready md ops listed=rs) (hne:rs≠[]) (h:aI0 P md ops Q S L fuel listed a w rs):gO0 P md ops Q S L (fuel+1) listed a w:=
 ⟨fun h0=>absurd (hr ▸ h0) hne,hr ▸ h⟩
theorem fT0 {listed:Array Bool} {a:Act} {w:World} (hr:Region.ready md ops listed=[]) (h:Q .normal a w):∀fuel,gO0 P md ops Q S L fuel listed a w
 | 0=>⟨hr,h⟩
 | _+1=>⟨fun _=>h,by rw [hr];simp⟩
theorem eP0 {id:Nat} {a:Act} {w:World} (S:World→Prop) (L:Nat→Bool) (hm:P.follows .mixedOrders=true) (hS:S w.drew) (h:S w.drew→gO0 P .any ops Q S L ops.size (Array.replicate ops.size false) a w.drew):(Code.region id ops true).wp P Q a w:=
 wp_region_any hm (jZ0 _ _ _ _ (h hS))
end
attribute [local go_sem ↓] Go.wp_at_zero Go.wp_at_succ
def lieP (o:Ord):Ord:=if o.kind=2 then { o with price:=1 } else o
theorem cH1 (o:Ord):(lieP o).id=o.id:=by unfold lieP;split <;> rfl
theorem sT0 (o:Ord):(lieP o).side=o.side:=by unfold lieP;split <;> rfl
def kA0 (s:Int):Bool:=s == 1 || s == 2
def cI1 (S:Nat→List Ly) (id:Int):Prop:=∃s,s<2∧∃x∈S s,x.o.id=id
theorem mQ0 (S:Nat→List Ly) (id:Int):cI1 S id∨∀s,s<2→∀x∈S s,x.o.id≠id:=by
 by_cases h:cI1 S id
 ·exact Or.inl h
 ·exact Or.inr (fun s hs x hx e=>h ⟨s,hs,x,hx,e⟩)
def cJ1 (w W':World) (bb m:Nat) (b:BkS) (o:Ord) (e:Ending):Prop:=
 ((kA0 o.side=false∨o.id<1)∧e=.returned (.iface 26 (.int .i64 1))∧Goes w W' bb (m+1) b b)
 ∨(kA0 o.side=true∧¬o.id<1∧cG0 (lieP o).price (lieP o).qty=false∧e=.returned (.iface 26 (.int .i64 2))∧Goes w W' bb (m+1) b b)
 ∨(kA0 o.side=true∧¬o.id<1∧cG0 (lieP o).price (lieP o).qty=true∧cI1 b.S o.id∧e=.returned (.iface 26 (.int .i64 9))∧Goes w W' bb (m+1) b b)
 ∨(kA0 o.side=true∧¬o.id<1∧cG0 (lieP o).price (lieP o).qty=true∧(∀s,s<2→∀x∈b.S s,x.o.id≠o.id)∧(b.S 0).length+(b.S 1).length=100∧e=.returned (.iface 26 (.int .i64 12))∧Goes w W' bb (m+1) b b)
 ∨(kA0 o.side=true∧¬o.id<1∧cG0 (lieP o).price (lieP o).qty=true∧(∀s,s<2→∀x∈b.S s,x.o.id≠o.id)∧(b.S 0).length+(b.S 1).length<100∧e=.returned .nilIface
  ∧∃(b':BkS) (s k:Nat) (a:Int),s<2∧o.side=(s:Int)+1∧b'.S=upS b.S s (cZ0 (eU0 (lieP o) ((b.S s).map Ly.o)) ⟨k,a,lieP o⟩ (b.S s))∧Goes w W' bb (m+1) b b')
theorem pS0 (i:Nat) (x:Ly) (l:List Ly):(cZ0 i x l).Perm (x::l):=by
 have:=List.perm_middle (a:=x) (l₁:=l.take i) (l₂:=l.drop i)
 rwa [List.take_append_drop] at this
def nT1 (b:BkS) (s k:Nat) (ag:Int) (p:Ord) (vs' vf' v':Value) (rs1:List Sot) (fr1:List Nat):BkS:=
 ⟨b.ab,b.mb,b.n+1,vs',vf',rowV b.v0 v' s 0,rowV b.v1 v' s 1,rs1.set k (some p,ag),fr1,upS b.S s (cZ0 (eU0 p ((b.S s).map Ly.o)) ⟨k,ag,p⟩ (b.S s))⟩
theorem cK1 {S:Nat→List Ly} {s i:Nat} {x:Ly} (t:Nat) (y:Ly):y∈upS S s (cZ0 i x (S s)) t↔((t=s∧y=x)∨y∈S t):=by
 by_cases e:t=s
 ·subst e;rw [gE0,(pS0 i x (S t)).mem_iff];simp
 ·rw [eS0 _ e];simp [e]
theorem cL1 {w we w7 w8:World} {bb m s k g6 c6:Nat} {ag:Int} {b:BkS} {p:Ord} {vs' vf':Value} {rs1:List Sot} {fr1:List Nat} (h:Bk w bb m b) (hm:m+1≤900000) (hs:s<2) (hR:qX0 b.rs b.fr k rs1 fr1) (hag:(soAt rs1 k).2=ag)
  (hside:p.side=(s:Int)+1) (hid1:¬p.id<1) (hwf:(Lit.int .i64 p.id).wf=true) (hr:cG0 p.price p.qty=true) (hno:∀t,t<2→∀x∈b.S t,x.o.id≠p.id) (hf:(b.S 0).length+(b.S 1).length<100)
  (hO:Out (b.foot bb) w we) (hN:Went w (aoB b.ab b.vs b.vf) (aoB b.ab vs' vf')) (hg6:(vAt b.v0 b.v1 s).ownBlock=some g6∨we.heap.size≤g6)
  (hG:BookG w7 bb b.ab b.mb b.n vs' vf' (rowV b.v0 (.slice (some ⟨g6,0,none⟩) (cZ0 (eU0 p ((b.S s).map Ly.o)) ⟨k,ag,p⟩ (b.S s)).length c6) s 0) (rowV b.v1 (.slice (some ⟨g6,0,none⟩) (cZ0 (eU0 p ((b.S s).map Ly.o)) ⟨k,ag,p⟩ (b.S s)).length c6) s 1) (rs1.set k (some p,ag)) fr1 b.S (upS b.S s (cZ0 (eU0 p ((b.S s).map Ly.o)) ⟨k,ag,p⟩ (b.S s))))
  (hT:Out (fun j=>j=bb∨(vAt b.v0 b.v1 s).ownBlock=some j) we w7) (hm8:eB0 w8 b.mb (b.n+1) (upS b.S s (cZ0 (eU0 p ((b.S s).map Ly.o)) ⟨k,ag,p⟩ (b.S s)))) (ho8:Out (fun j=>j=b.mb) w7 w8):
  Goes w w8 bb (m+1) b (nT1 b s k ag p vs' vf' (.slice (some ⟨g6,0,none⟩) (cZ0 (eU0 p ((b.S s).map Ly.o)) ⟨k,ag,p⟩ (b.S s)).length c6) rs1 fr1):=by
 obtain ⟨hp1,hp2⟩:inB 1 1000000 p.price=true∧inB 1 1000000 p.qty=true:=by simpa [cG0] using hr
 have h1:=dW0 hp1;have h2:=dW0 hp2;refine ⟨⟨(hG.newMap ho8 hm8).done,?_,Nat.succ_le_succ h.small,hm⟩,?_,?_⟩
 ·subst hag;exact h.ok.put hR hs (pS0 _ _ _) hside ⟨by omega,hwf,h1.1,h1.2,h2.1,h2.2⟩ hno hf
 ·refine (hO.trans (hT.mono (S':=b.foot bb) (fun j hj=>?_)) (Went.refl _ _)).trans (ho8.mono (S':=b.foot bb) (fun j hj=>Or.inr (Or.inr (Or.inl hj)))) (Went.refl _ _);rcases hj with hj | hj
  ·exact Or.inl hj
  ·exact Or.inr (Or.inr (Or.inr (vL0 hs hj)))
 ·have hw:=sQ0 (w:=w) (v0:=b.v0) (v1:=b.v1) (v':=.slice (some ⟨g6,0,none⟩) (cZ0 (eU0 p ((b.S s).map Ly.o)) ⟨k,ag,p⟩ (b.S s)).length c6) hs (fun j hj=>by
   have e:g6=j:=by simpa [Value.ownBlock] using hj
   subst e;exact hg6.imp id (fun h=>Nat.le_trans hO.size h))
  rintro j (hj | hj | hj | hj)
  ·exact Or.inl (Or.inl hj)
  ·exact (hN j hj).imp (fun h=>Or.inr (Or.inl h)) id
  ·exact Or.inl (Or.inr (Or.inr (Or.inl hj)))
  ·exact (hw j hj).imp (fun h=>Or.inr (Or.inr (Or.inr h))) id
set_option maxRecDepth 100000 in
set_option maxHeartbeats 4000000 in
theorem sZ1 (bb m:Nat) (b:BkS) (o:Ord) (w:World) (h:Bk w bb m b) (hm:m+1≤900000) (hw:(Lit.int .i64 o.id).wf=true):
  Calls Tryz.prog 242 #[.pointer (some ⟨bb,0,none⟩),o.agg] w fun e W'=>cJ1 w W' bb m b o e:=by
 have H:Hid (Bk w bb m b):=h;have HW:Hid ((Lit.int .i64 o.id).wf=true):=hw;clear h hw;unfold Ord.agg;go_enter Tryz.func242,Tryz.ntmps242;go_wp2_with fail;refine (iU0 o.side _).mono ?_;rintro e w1 ⟨rfl,hw⟩;subst hw;cases hs:(o.side == 1 || o.side == 2) with
 | false=>
  have HS:Hid (kA0 o.side=false):=hs;clear hs;go_wp2_with fail;go_ret;exact Or.inl ⟨Or.inl HS.out,rfl,Goes.stay H.out (bel1 _ _) (Nat.le_succ _) hm⟩
 | true=>
  have HS:Hid (kA0 o.side=true):=hs;clear hs
  by_cases hid:o.id<1
  ·have hib:decide (o.id<1)=true:=decide_eq_true hid;go_wp2_with fail;go_ret;exact Or.inl ⟨Or.inr hid,rfl,Goes.stay H.out (bel1 _ _) (Nat.le_succ _) hm⟩
  ·have HI:Hid (¬o.id<1):=hid;go_upto_if 22 with fail;go_cut [23] (fun _ wc=>Below w.heap.size w wc∧cP0 wc w.heap.size (lieP o))
   case first=>
    by_cases hk:o.kind=2
    ·have hkb:(o.kind == 2)=true:=beq_iff_eq.2 hk;have HK:Hid (lieP o={ o with price:=1 }):=by show lieP o=_;unfold lieP;rw [if_pos hk]
     clear hk;go_wp2_with fail;go_meet;exact ⟨bel1 _ _,by rw [HK.out];exact heap_alloc_new w _⟩
    ·have hkb:(o.kind == 2)=false:=beq_eq_false_iff_ne.2 hk;have HK:Hid (lieP o=o):=by show lieP o=_;unfold lieP;rw [if_neg hk]
     clear hk;go_wp2_with fail;go_meet;exact ⟨bel1 _ _,by rw [HK.out];exact heap_alloc_new w _⟩
   case rest=>
    obtain ⟨hb,hx⟩:=hcut;have HPI:Hid ((lieP o).id=o.id):=cH1 o;have HPS:Hid ((lieP o).side=o.side):=sT0 o
    have HP:Hid (∀(e:Ending) (W':World),((kA0 o.side=true∧¬o.id<1∧cG0 (lieP o).price (lieP o).qty=false∧e=.returned (.iface 26 (.int .i64 2))∧Goes w W' bb (m+1) b b)
      ∨(kA0 o.side=true∧¬o.id<1∧cG0 (lieP o).price (lieP o).qty=true∧cI1 b.S o.id∧e=.returned (.iface 26 (.int .i64 9))∧Goes w W' bb (m+1) b b)
      ∨(kA0 o.side=true∧¬o.id<1∧cG0 (lieP o).price (lieP o).qty=true∧(∀s,s<2→∀x∈b.S s,x.o.id≠o.id)∧(b.S 0).length+(b.S 1).length=100∧e=.returned (.iface 26 (.int .i64 12))∧Goes w W' bb (m+1) b b)
      ∨(kA0 o.side=true∧¬o.id<1∧cG0 (lieP o).price (lieP o).qty=true∧(∀s,s<2→∀x∈b.S s,x.o.id≠o.id)∧(b.S 0).length+(b.S 1).length<100∧e=.returned .nilIface
       ∧∃(b':BkS) (s k:Nat) (a:Int),s<2∧o.side=(s:Int)+1∧b'.S=upS b.S s (cZ0 (eU0 (lieP o) ((b.S s).map Ly.o)) ⟨k,a,lieP o⟩ (b.S s))∧Goes w W' bb (m+1) b b'))→cJ1 w W' bb m b o e):=fun e W' h=>Or.inr h
    generalize lieP o=p at hx HPI HPS HP;have HB:Hid (Below w.heap.size w wc):=hb;have HX:Hid (cP0 wc w.heap.size p):=hx;have z0:=aA0 (j:=0) hx rfl;have z1:=aA0 (j:=1) hx rfl;have z2:=aA0 (j:=2) hx rfl;have z3:=aA0 (j:=3) hx rfl;have z4:=aA0 (j:=4) hx rfl;clear hx hb hid;go_wp2_with fail;refine (jX0 p.price p.qty _).mono ?_;rintro e w1 ⟨rfl,hb1⟩;have HB1:Hid (Below w.heap.size w w1):=aC0 HB.out hb1;have HX1:Hid (cP0 w1 w.heap.size p):=aD0 HX.out hb1 lR7;clear hb1 z0 z1 z2 z3 z4;cases hr:cG0 p.price p.qty with
    | false=>
     have HR:Hid (cG0 p.price p.qty=false):=hr;clear hr;go_wp2_with fail;go_ret;exact HP.out _ _ (Or.inl ⟨HS.out,HI.out,HR.out,rfl,Goes.stay H.out HB1.out (Nat.le_succ _) hm⟩)
    | true=>
     have HR:Hid (cG0 p.price p.qty=true):=hr;clear hr;go_wp2_with fail;have HBK:Hid (Bk w1 bb m b):=H.out.below HB1.out lR7;have m1:w1.cell? ⟨bb,1,none⟩=some (.map (some b.mb)):=aA0 (j:=1) HBK.out.at_.box rfl;have m2:w1.cell? ⟨w.heap.size,0,none⟩=some (.int .i64 p.id):=aA0 (j:=0) HX1.out rfl;have hwp:(Lit.int .i64 p.id).wf=true:=by rw [HPI.out];exact HW.out
     have lb:bb<w1.heap.size:=HBK.out.lt (Or.inl rfl);have lx:w.heap.size<w1.heap.size:=lt_of_block HX1.out;rcases mQ0 b.S p.id with hl | hl
     ·obtain ⟨s,hs2,x,hxs,hxe⟩:=hl;have HL:Hid (cI1 b.S p.id):=⟨s,hs2,x,hxs,hxe⟩
      have HS7:Hid (∀w',Below w1.heap.size w1 w'→(w'.cell? ⟨bb,1,none⟩=some (.map (some b.mb))∧w'.cell? ⟨w.heap.size,0,none⟩=some (.int .i64 p.id)∧(Instr.lookup 229 (.map (some b.mb)) (.int .i64 p.id) true).run Tryz.prog w'=.ok (.tuple #[.agg #[.int .i64 x.slot,.int .i64 x.age,.int .i64 s],.bool true]) w'∧Below w1.heap.size w1 w')):=
       fun w' hb=>⟨cell_later hb m1,cell_later hb m2,by
        have:=(HBK.out.below hb lR7).at_.map.yes hs2 hxs (by rw [hxe];exact hwp)
        rwa [hxe] at this,hb⟩
      clear m1 m2 hwp hxe;have hs0:=HS7.out w1 (Below.refl _ _)
      go_region_held3 (fun w'=>w'.cell? ⟨bb,1,none⟩=some (.map (some b.mb))∧w'.cell? ⟨w.heap.size,0,none⟩=some (.int .i64 p.id)∧(Instr.lookup 229 (.map (some b.mb)) (.int .i64 p.id) true).run Tryz.prog w'=.ok (.tuple #[.agg #[.int .i64 x.slot,.int .i64 x.age,.int .i64 s],.bool true]) w'∧Below w1.heap.size w1 w')
       ((refine HS7.out _ ?_;(repeat' first | assumption | exact Below.refl _ _ | exact lR7 | refine Below.drew ?_ | refine Below.alloc ?_ ?_ _ | (simp;done) | (simp;omega)))) (fail)
      all_goals go_wp2_with fail
      all_goals go_ret
      all_goals refine HP.out _ _ (Or.inr (Or.inl ⟨HS.out,HI.out,HR.out,HPI.out ▸ HL.out,rfl,Goes.stay H.out (aC0 HB1.out ?_) (Nat.le_succ _) hm⟩))
      all_goals (repeat' first | assumption | exact Below.refl _ _ | exact lR7 | refine Below.drew ?_ | refine Below.alloc ?_ ?_ _ | (simp;done) | (simp;omega))
     ·have HL:Hid (∀s,s<2→∀x∈b.S s,x.o.id≠p.id):=hl
      have HS7:Hid (∀w',Below w1.heap.size w1 w'→(w'.cell? ⟨bb,1,none⟩=some (.map (some b.mb))∧w'.cell? ⟨w.heap.size,0,none⟩=some (.int .i64 p.id)∧(Instr.lookup 229 (.map (some b.mb)) (.int .i64 p.id) true).run Tryz.prog w'=.ok (.tuple #[.agg #[.int .i64 0,.int .i64 0,.int .i64 0],.bool false]) w'∧Below w1.heap.size w1 w')):=
       fun w' hb=>⟨cell_later hb m1,cell_later hb m2,(HBK.out.below hb lR7).at_.map.no hl hwp,hb⟩
      clear m1 m2 hwp hl;have hs0:=HS7.out w1 (Below.refl _ _);go_cut [5,6] from 31 to 40 (fun _ p6 wc=>p6=.bool false∧Below w1.heap.size w1 wc)
      case first=>
       go_region_held3 (fun w'=>w'.cell? ⟨bb,1,none⟩=some (.map (some b.mb))∧w'.cell? ⟨w.heap.size,0,none⟩=some (.int .i64 p.id)∧(Instr.lookup 229 (.map (some b.mb)) (.int .i64 p.id) true).run Tryz.prog w'=.ok (.tuple #[.agg #[.int .i64 0,.int .i64 0,.int .i64 0],.bool false]) w'∧Below w1.heap.size w1 w')
        ((refine HS7.out _ ?_;(repeat' first | assumption | exact Below.refl _ _ | exact lR7 | refine Below.drew ?_ | refine Below.alloc ?_ ?_ _ | (simp;done) | (simp;omega)))) (fail)
       all_goals go_wp2_with fail
       all_goals go_meet
       all_goals refine ⟨rfl,?_⟩
       all_goals (repeat' first | assumption | exact Below.refl _ _ | exact lR7 | refine Below.drew ?_ | refine Below.alloc ?_ ?_ _ | (simp;done) | (simp;omega))
      case rest=>
       obtain ⟨rfl,hb2⟩:=hcut;have HB2:Hid (Below w.heap.size w wc):=aC0 HB1.out hb2;have HX2:Hid (cP0 wc w.heap.size p):=aD0 HX1.out hb2 lR7;have HBK2:Hid (Bk wc bb m b):=H.out.below HB2.out lR7;clear hb2 hs0 HS7 HBK lb lx;go_wp2_with fail;have n0:wc.cell? ⟨bb,0,none⟩=some (.pointer (some ⟨b.ab,0,none⟩)):=aA0 (j:=0) HBK2.out.at_.box rfl;have nb:¬aoB b.ab b.vs b.vf bb:=fun e=>HBK2.out.at_.notBox e
       have nx:¬aoB b.ab b.vs b.vf w.heap.size:=fun e=>Nat.lt_irrefl _ (H.out.at_.ar.lt e)
       have HS9:Hid (∀w',Out (aoB b.ab b.vs b.vf) wc w'→(w'.cell? ⟨bb,0,none⟩=some (.pointer (some ⟨b.ab,0,none⟩))∧w'.cell? ⟨w.heap.size,0,none⟩=some (.int .i64 p.id)∧w'.cell? ⟨w.heap.size,1,none⟩=some (.int .i64 p.side)∧w'.cell? ⟨w.heap.size,2,none⟩=some (.int .i64 p.kind)∧w'.cell? ⟨w.heap.size,3,none⟩=some (.int .i64 p.price)∧w'.cell? ⟨w.heap.size,4,none⟩=some (.int .i64 p.qty)∧Out (aoB b.ab b.vs b.vf) wc w')):=
        fun w' ho=>⟨aA0 (j:=0) (aE0 HBK2.out.at_.box ho nb) rfl,aA0 (j:=0) (aE0 HX2.out ho nx) rfl,aA0 (j:=1) (aE0 HX2.out ho nx) rfl,aA0 (j:=2) (aE0 HX2.out ho nx) rfl,aA0 (j:=3) (aE0 HX2.out ho nx) rfl,aA0 (j:=4) (aE0 HX2.out ho nx) rfl,ho⟩
       have hs0:=HS9.out wc (Out.refl _ _);have lx:w.heap.size<wc.heap.size:=lt_of_block HX2.out;have hcl:b.rs.length≤1000000:=by have:=H.out.ok.so.small;have:=H.out.steps;omega
       have HCN:Hid (cntO b.rs+b.fr.length=b.rs.length):=H.out.ok.so.cnt;clear n0
       by_cases hfull:(b.S 0).length+(b.S 1).length=100
       ·have HF:Hid ((b.S 0).length+(b.S 1).length=100):=hfull;have HC:Hid ((cntO b.rs:Int)=100):=by show _=_;rw [H.out.ok.cnt];omega
        clear hfull
        go_region_held3 (fun w'=>w'.cell? ⟨bb,0,none⟩=some (.pointer (some ⟨b.ab,0,none⟩))∧w'.cell? ⟨w.heap.size,0,none⟩=some (.int .i64 p.id)∧w'.cell? ⟨w.heap.size,1,none⟩=some (.int .i64 p.side)∧w'.cell? ⟨w.heap.size,2,none⟩=some (.int .i64 p.kind)∧w'.cell? ⟨w.heap.size,3,none⟩=some (.int .i64 p.price)∧w'.cell? ⟨w.heap.size,4,none⟩=some (.int .i64 p.qty)∧Out (aoB b.ab b.vs b.vf) wc w')
         ((refine HS9.out _ ?_;(repeat' first | assumption | exact Out.refl _ _ | refine aT0 ?_ | refine cU0 ?_ _ | refine bA0 ?_ ho2 | refine eH0 ?_ ?_ | (simp;done) | (simp;omega) | (have h9:=ho2.size;simp at h9 ⊢;omega))))
         (first | (go_at_call 274;refine (zU0 b.ab 100 b.vs b.vf b.rs b.fr p _ (HBK2.out.at_.ar.below (B:=wc.heap.size) ?_ lR7) hcl HCN.out HC.out).mono ?_;(repeat' first | assumption | exact Below.refl _ _ | exact lR7 | refine Below.drew ?_ | refine Below.alloc ?_ ?_ _ | (simp;done) | (simp;omega));rintro e w2 ⟨rfl,hb2⟩;have hb1:=hb2;have ho2:=Out.of_below (S:=aoB b.ab b.vs b.vf) hb2 lR7;try (have hxb:=(hb2.block wc.heap.size (by simp)).trans (heap_alloc_new wc _);have y0:=aA0 (j:=0) hxb rfl;have y1:=aA0 (j:=1) hxb rfl;have y2:=aB0 (j:=0) hxb;have y3:=aB0 (j:=1) hxb)))
        all_goals go_wp2_with fail
        all_goals go_ret
        all_goals refine HP.out _ _ (Or.inr (Or.inr (Or.inl ⟨HS.out,HI.out,HR.out,HPI.out ▸ HL.out,HF.out,rfl,Goes.stay H.out (aC0 HB2.out ?_) (Nat.le_succ _) hm⟩)))
        all_goals (repeat' first | assumption | exact Below.refl _ _ | exact lR7 | refine Below.drew ?_ | refine Below.alloc ?_ ?_ _ | refine aC0 ?_ hb1 | refine Below.setCell ?_ ?_ _ | (simp;done) | (simp;omega) | (have h9:=hb1.size;simp at h9 ⊢;omega))
       ·have HF:Hid ((b.S 0).length+(b.S 1).length<100):=by show _<_;have:=H.out.ok.most;omega
        have HC:Hid (¬(cntO b.rs:Int)=100):=by show ¬_;rw [H.out.ok.cnt];omega
        obtain ⟨k,rs1,fr1,hR⟩:=nJ1 H.out.ok.so;obtain ⟨hk,_,_,_,_⟩:=nH0 H.out.ok.so hR;have HRM:Hid (qX0 b.rs b.fr k rs1 fr1):=hR;clear hfull hR;generalize hag:(soAt rs1 k).2=ag;have HAG:Hid ((soAt rs1 k).2=ag):=hag;clear hag;go_cut [7,8] from 43 to 51 (fun p7 p8 wd=>p8=.nilIface∧∃(hb:Nat) (vs' vf':Value),p7=.pointer (some ⟨hb,0,none⟩)∧wc.heap.size≤hb∧wd.heap[hb]? = some (.cells #[.int .i64 k,.int .i64 ag] 240 (0,0))∧ArOr wd b.ab 100 vs' vf' (rs1.set k (some p,ag)) fr1∧Out (aoB b.ab b.vs b.vf) wc wd∧Went wc (aoB b.ab b.vs b.vf) (aoB b.ab vs' vf'))
        case first=>
         go_region_held3 (fun w'=>w'.cell? ⟨bb,0,none⟩=some (.pointer (some ⟨b.ab,0,none⟩))∧w'.cell? ⟨w.heap.size,0,none⟩=some (.int .i64 p.id)∧w'.cell? ⟨w.heap.size,1,none⟩=some (.int .i64 p.side)∧w'.cell? ⟨w.heap.size,2,none⟩=some (.int .i64 p.kind)∧w'.cell? ⟨w.heap.size,3,none⟩=some (.int .i64 p.price)∧w'.cell? ⟨w.heap.size,4,none⟩=some (.int .i64 p.qty)∧Out (aoB b.ab b.vs b.vf) wc w')
          ((refine HS9.out _ ?_;(repeat' first | assumption | exact Out.refl _ _ | refine aT0 ?_ | refine cU0 ?_ _ | refine bA0 ?_ ho2 | refine eH0 ?_ ?_ | (simp;done) | (simp;omega) | (have h9:=ho2.size;simp at h9 ⊢;omega))))
          (first | (go_at_call 274;refine (sY1 b.ab 100 b.vs b.vf b.rs b.fr p k rs1 fr1 _ (HBK2.out.at_.ar.below (B:=wc.heap.size) ?_ lR7) hcl HCN.out HC.out HRM.out hk).mono ?_;(repeat' first | assumption | exact Below.refl _ _ | exact lR7 | refine Below.drew ?_ | refine Below.alloc ?_ ?_ _ | (simp;done) | (simp;omega));rw [HAG.out];rintro e w2 ⟨rfl,vs',vf',ha2,ho2,hw2⟩;try (have hxb:=aE0 (w:=(wc.alloc (.cells #[.int .i64 0,.int .i64 0] 240)).drew) (heap_alloc_new wc _) ho2 (fun e=>Nat.lt_irrefl _ (HBK2.out.at_.ar.lt e));have y0:=aA0 (j:=0) hxb rfl;have y1:=aA0 (j:=1) hxb rfl;have y2:=aB0 (j:=0) hxb;have y3:=aB0 (j:=1) hxb)))
         ·go_wp2_with fail;go_meet;exact ⟨rfl,w2.heap.size,vs',vf',rfl,ho2.size,heap_alloc_new w2 _,ha2.below (bel1 _ _) lR7,cU0 (bA0 (aT0 (Out.refl _ wc)) ho2) _,hw2⟩
         ·go_wp2_with fail;go_meet;have s3:=(aN0 w2 ⟨wc.heap.size,0,none⟩ (.int .i64 k)).trans (aN0 _ ⟨wc.heap.size,1,none⟩ (.int .i64 ag)) (Went.refl _ _);refine ⟨rfl,wc.heap.size,vs',vf',rfl,lR7,aH0 (j:=1) _ (aH0 (j:=0) _ hxb),ha2.out s3 (fun j hj e=>?_),eH0 (eH0 (bA0 (aT0 (cU0 (Out.refl _ wc) _)) ho2) lR7) lR7,fun j hj=>(hw2 j hj).imp id (fun h4=>by simp at h4;omega)⟩;have e':j=wc.heap.size:=e;rcases hw2 j hj with h4 | h4
          ·have:=HBK2.out.at_.ar.lt h4;omega
          ·simp at h4;omega
        case rest=>
         obtain ⟨rfl,hb,vs',vf',rfl,hbl,hh,ha,ho,hwn⟩:=hcut;have hx3:=aE0 HX2.out ho nx;have HX3:Hid (cP0 wc w.heap.size p):=hx3;have HHB:Hid (wc.heap[hb]? = some (.cells #[.int .i64 k,.int .i64 ag] 240 (0,0))):=hh;have HBK3:Hid (BookAt wc bb b.ab b.mb b.n vs' vf' b.v0 b.v1 (rs1.set k (some p,ag)) fr1 b.S):=HBK2.out.at_.newAr ho ha;have HO3:Hid (Out (b.foot bb) w wc):=(Out.of_below HB2.out lR7).trans (ho.mono (S':=b.foot bb) (fun j hj=>Or.inr (Or.inl hj))) (Went.refl _ _);have HN3:Hid (Went w (aoB b.ab b.vs b.vf) (aoB b.ab vs' vf')):=fun j hj=>(hwn j hj).imp id (fun h4=>Nat.le_trans HB2.out.size h4)
         have HLH:Hid (w.heap.size+1≤hb):=Nat.le_trans lx hbl;clear ho hwn hbl hs0 nb nx HS9 HC hcl HCN lx HX2 HB2 HBK2
         obtain ⟨s,hs2,hps⟩:∃s:Nat,s<2∧p.side=(s:Int)+1:=by
          have h1:=HS.out;rw [←HPS.out] at h1;unfold kA0 at h1;simp only [Bool.or_eq_true,beq_iff_eq] at h1;rcases h1 with h1 | h1
          ·exact ⟨0,by decide,by rw [h1];rfl⟩
          ·exact ⟨1,by decide,by rw [h1];rfl⟩
         have hsub:IntKind.i64.wrap (p.side - 1)=(s:Int):=by rw [hps,show (s:Int)+1 - 1=s by omega];exact IntWalk.i64_in _ (by omega)
         have HPSS:Hid (p.side=(s:Int)+1):=hps;have z0:=aA0 (j:=0) hh rfl;have z1:=aA0 (j:=1) hh rfl;have z2:=aA0 (j:=1) hx3 rfl;clear hps hh hx3 ha;go_upto_region 14 with fail;have hbe:=bel1 wc (.cells #[.int .i64 k,.int .i64 ag,.int .i64 s] 242);have hpb:=heap_alloc_new wc (.cells #[.int .i64 k,.int .i64 ag,.int .i64 s] 242);have hlp:w.heap.size≤wc.heap.size:=HO3.out.size;generalize wc.alloc (.cells #[.int .i64 k,.int .i64 ag,.int .i64 s] 242)=we at hbe hpb ⊢;have HX4:Hid (cP0 we w.heap.size p):=aD0 HX3.out hbe lR7;have HHB4:Hid (we.heap[hb]? = some (.cells #[.int .i64 k,.int .i64 ag] 240 (0,0))):=aD0 HHB.out hbe lR7;have HBK4:Hid (BookAt we bb b.ab b.mb b.n vs' vf' b.v0 b.v1 (rs1.set k (some p,ag)) fr1 b.S):=HBK3.out.below hbe lR7;have HO4:Hid (Out (b.foot bb) w we):=HO3.out.trans (Out.of_below hbe lR7) (Went.refl _ _);generalize wc.heap.size=pb at hpb hlp ⊢;have HPB:Hid (we.heap[pb]? = some (.cells #[.int .i64 k,.int .i64 ag,.int .i64 s] 242 (0,0))):=hpb;clear hbe hpb HX3 HHB HBK3 HO3 z0 z1 z2;have hol:∀j,(vAt b.v0 b.v1 s).ownBlock=some j→j<w.heap.size:=fun j hj=>H.out.lt (Or.inr (Or.inr (Or.inr (vL0 hs2 hj))))
         have nT:∀{j:Nat} {vs:Array Value} {t:TypeId},we.heap[j]? = some (.cells vs t (0,0))→w.heap.size≤j→¬((vAt b.v0 b.v1 s).ownBlock=some j):=fun {j vs t} hj hl e=>by
          have:=hol _ e;omega
         have HS14:Hid (∀w',Out (fun j=>(vAt b.v0 b.v1 s).ownBlock=some j) we w'→(w'.cell? ⟨pb,2,none⟩=some (.int .i64 s)∧w'.cell? ⟨w.heap.size,0,none⟩=some (.int .i64 p.id)∧w'.cell? ⟨w.heap.size,1,none⟩=some (.int .i64 p.side)∧w'.cell? ⟨w.heap.size,2,none⟩=some (.int .i64 p.kind)∧w'.cell? ⟨w.heap.size,3,none⟩=some (.int .i64 p.price)∧w'.cell? ⟨w.heap.size,4,none⟩=some (.int .i64 p.qty)∧w'.cell? ⟨hb,0,none⟩=some (.int .i64 k)∧w'.cell? ⟨hb,1,none⟩=some (.int .i64 ag)∧w'.cell? ⟨bb,2+s,none⟩=some (vAt b.v0 b.v1 s)∧Out (fun j=>(vAt b.v0 b.v1 s).ownBlock=some j) we w')):=fun w' ho=>by
          have g1:=aE0 HPB.out ho (nT HPB.out hlp);have g2:=aE0 HX4.out ho (nT HX4.out lR7);have g3:=aE0 HHB4.out ho (nT HHB4.out (by have:=HLH.out;omega));have g4:=aE0 HBK4.out.box ho (HBK4.out.mid.rowNotBox hs2);exact ⟨aA0 (j:=2) g1 rfl,aA0 (j:=0) g2 rfl,aA0 (j:=1) g2 rfl,aA0 (j:=2) g2 rfl,aA0 (j:=3) g2 rfl,aA0 (j:=4) g2 rfl,aA0 (j:=0) g3 rfl,aA0 (j:=1) g3 rfl,(jY0 g4 hs2).1,ho⟩
         have HTH:Hid (∀x∈b.S s,soAt (rs1.set k (some p,ag)) x.slot=(some x.o,x.age)):=fun x hx=>by
          obtain ⟨h1,h2⟩:=(nH0 H.out.ok.so HRM.out).2.2.1 _ _ _ (H.out.ok.there s hs2 x hx);rw [bG0 _ (Ne.symm h1)];exact h2
         have hln:(b.S s).length≤1000:=by
          have h1:=(nG0 b.S [] hs2).2;have h2:=H.out.ok.most;omega
         have hrk:eU0 p ((b.S s).map Ly.o)≤(b.S s).length:=by
          have:=iH1 p ((b.S s).map Ly.o)
          simpa using this
         have q1:(0:Int)≤(s:Int):=by omega
         have q2:(s:Int)<2:=by omega
         clear nT;refine eP0 (fun w'=>w'.cell? ⟨pb,2,none⟩=some (.int .i64 s)∧w'.cell? ⟨w.heap.size,0,none⟩=some (.int .i64 p.id)∧w'.cell? ⟨w.heap.size,1,none⟩=some (.int .i64 p.side)∧w'.cell? ⟨w.heap.size,2,none⟩=some (.int .i64 p.kind)∧w'.cell? ⟨w.heap.size,3,none⟩=some (.int .i64 p.price)∧w'.cell? ⟨w.heap.size,4,none⟩=some (.int .i64 p.qty)∧w'.cell? ⟨hb,0,none⟩=some (.int .i64 k)∧w'.cell? ⟨hb,1,none⟩=some (.int .i64 ag)∧w'.cell? ⟨bb,2+s,none⟩=some (vAt b.v0 b.v1 s)∧Out (fun j=>(vAt b.v0 b.v1 s).ownBlock=some j) we w') (fun i=>i == 21) (by kernel_rfl) (HS14.out _ (aT0 (Out.refl _ _))) (fun hHeld=>?_);refine tkL7 (i:=0) (v:=?_) rfl (by kernel_rfl) (fun _ _ _ h=>h) (by rfl) ?_ (by assumption) ?_;rotate_left
         ·intro w hSw;try dsimp only at hSw
          go_simp;try rfl
         refine tkL7 (i:=1) (v:=?_) rfl (by kernel_rfl) (fun _ _ _ h=>h) (by rfl) ?_ (by assumption) ?_;rotate_left
         ·intro w hSw;try dsimp only at hSw
          go_simp;try rfl
         refine tkL7 (i:=2) (v:=?_) rfl (by kernel_rfl) (fun _ _ _ h=>h) (by rfl) ?_ (by assumption) ?_;rotate_left
         ·intro w hSw;try dsimp only at hSw
          go_simp;try rfl
         refine tkL7 (i:=3) (v:=?_) rfl (by kernel_rfl) (fun _ _ _ h=>h) (by rfl) ?_ (by assumption) ?_;rotate_left
         ·intro w hSw;try dsimp only at hSw
          go_simp;try rfl
         refine tkL7 (i:=4) (v:=?_) rfl (by kernel_rfl) (fun _ _ _ h=>h) (by rfl) ?_ (by assumption) ?_;rotate_left
         ·intro w hSw;try dsimp only at hSw
          go_simp;try rfl
         refine tkL7 (i:=5) (v:=?_) rfl (by kernel_rfl) (fun _ _ _ h=>h) (by rfl) ?_ (by assumption) ?_;rotate_left
         ·intro w hSw;try dsimp only at hSw
          go_simp;try rfl
         refine tkL7 (i:=6) (v:=?_) rfl (by kernel_rfl) (fun _ _ _ h=>h) (by rfl) ?_ (by assumption) ?_;rotate_left
         ·intro w hSw;try dsimp only at hSw
          go_simp;try rfl
         refine tkL7 (i:=7) (v:=?_) rfl (by kernel_rfl) (fun _ _ _ h=>h) (by rfl) ?_ (by assumption) ?_;rotate_left
         ·intro w hSw;try dsimp only at hSw
          go_simp;try rfl
         refine tkL7 (i:=8) (v:=?_) rfl (by kernel_rfl) (fun _ _ _ h=>h) (by rfl) ?_ (by assumption) ?_;rotate_left
         ·intro w hSw;try dsimp only at hSw
          go_simp;try rfl
         refine tkL7 (i:=9) (v:=?_) rfl (by kernel_rfl) (fun _ _ _ h=>h) (by rfl) ?_ (by assumption) ?_;rotate_left
         ·intro w hSw;try dsimp only at hSw
          go_simp;try rfl
         refine tkL7 (i:=10) (v:=?_) rfl (by kernel_rfl) (fun _ _ _ h=>h) (by rfl) ?_ (by assumption) ?_;rotate_left
         ·intro w hSw;try dsimp only at hSw
          go_simp;try rfl
         refine tkL7 (i:=11) (v:=?_) rfl (by kernel_rfl) (fun _ _ _ h=>h) (by rfl) ?_ (by assumption) ?_;rotate_left
         ·intro w hSw;try dsimp only at hSw
          go_simp;try rfl
         refine tkL7 (i:=12) (v:=?_) rfl (by kernel_rfl) (fun _ _ _ h=>h) (by rfl) ?_ (by assumption) ?_;rotate_left
         ·intro w hSw;try dsimp only at hSw
          go_simp;try rfl
         refine tkL7 (i:=13) (v:=?_) rfl (by kernel_rfl) (fun _ _ _ h=>h) (by rfl) ?_ (by assumption) ?_;rotate_left
         ·intro w hSw;try dsimp only at hSw
          go_simp;try rfl
         refine tkL7 (i:=15) (v:=?_) rfl (by kernel_rfl) (fun _ _ _ h=>h) (by rfl) ?_ (by assumption) ?_;rotate_left
         ·intro w hSw;try dsimp only at hSw
          go_simp;try rfl
         refine tkL7 (i:=18) (v:=?_) rfl (by kernel_rfl) (fun _ _ _ h=>h) (by rfl) ?_ (by assumption) ?_;rotate_left
         ·intro w hSw;try dsimp only at hSw
          go_simp;try rfl
         refine tkL7 (i:=19) (v:=?_) rfl (by kernel_rfl) (fun _ _ _ h=>h) (by rfl) ?_ (by assumption) ?_;rotate_left
         ·intro w hSw;try dsimp only at hSw
          go_simp;try rfl
         refine aU0 (rs:=[14,16]) (by kernel_rfl) (by simp) ?_;refine aI0.cons rfl (fun K hK=>?_) (aI0.cons rfl (fun K hK=>?_) aI0.nil)
         ·go_simp;refine (cG1 bb b.ab b.mb b.n s vs' vf' b.v0 b.v1 (rs1.set k (some p,ag)) fr1 b.S p we _ hs2 hln HTH.out HBK4.out (Below.refl _ _).drew).mono ?_;rintro e w5 ⟨rfl,hb5,hb1,e5,l5⟩;dsimp only;refine hK.out _ _ (fun _=>HS14.out _ (Out.of_below hb1 lR7)) (fun hHeld=>?_);replace hHeld:=hHeld rfl;clear hK K;refine aU0 (rs:=[16]) (by kernel_rfl) (by simp) ?_;refine aI0.cons rfl (fun K hK=>?_) aI0.nil;go_simp;refine hK.out _ _ (fun _=>HS14.out _ (cU0 (Out.of_below hb1 lR7) _)) (fun hHeld=>?_);replace hHeld:=hHeld rfl;clear hK K;have hbw:Below we.heap.size we (w5.alloc (.cells #[.int .i64 k,.int .i64 ag] 240)):=aC0 hb1 (bel1 _ _);have hvb:=heap_alloc_new w5 (.cells #[.int .i64 k,.int .i64 ag] 240);have hvl:we.heap.size≤w5.heap.size:=hb1.size;refine aU0 (rs:=[17]) (by kernel_rfl) (by simp) ?_;refine aI0.cons rfl (fun K hK=>?_) aI0.nil;go_simp;refine (sR0 _ _ bb b.ab b.mb b.n s vs' vf' b.v0 b.v1 (rs1.set k (some p,ag)) fr1 b.S ⟨k,ag,p⟩ we _ hs2 hln hrk HBK4.out hbw hvb hvl).mono ?_;rintro e w6 ⟨g6,c6,rfl,hr6,ho6,hg6,hoI,e6,f6⟩;dsimp only;refine hK.out _ _ (fun _=>HS14.out _ ho6) (fun hHeld=>?_);replace hHeld:=hHeld rfl;clear hK K;refine aU0 (rs:=[20]) (by kernel_rfl) (by simp) ?_;refine aI0.cons rfl (fun K hK=>?_) aI0.nil;go_simp;refine hK.out _ _ (fun _=>HS14.out _ ho6) (fun hHeld=>?_);replace hHeld:=hHeld rfl;clear hK K;refine aU0 (rs:=[21]) (by kernel_rfl) (by simp) ?_;refine aI0.cons rfl (fun K hK=>?_) aI0.nil;go_simp;refine hK.out _ _ (fun h=>by cases h) (fun _=>?_);refine fT0 (by kernel_rfl) ?_ _;go_wp2_with fail;obtain ⟨hG,hT⟩:=HBK4.out.mid.newRow hs2 hr6 ho6 hg6;generalize w6.setCell ⟨bb,2+s,none⟩ (.slice (some ⟨g6,0,none⟩) (cZ0 (eU0 p ((b.S s).map Ly.o)) ⟨k,ag,p⟩ (b.S s)).length c6)=w7 at hG hT ⊢;obtain ⟨w8,hrun,hm8,ho8⟩:=(hG.map.same (w':=w7.drew) rfl).put (x:=⟨k,ag,p⟩) (S':=upS b.S s (cZ0 (eU0 p ((b.S s).map Ly.o)) ⟨k,ag,p⟩ (b.S s))) hs2 (by show (Lit.int .i64 p.id).wf=true;rw [HPI.out];exact HW.out) (by have:=H.out.small;omega) HL.out (fun t _ y=>cK1 t y);have HFIN:Hid (Goes w w8 bb (m+1) b (nT1 b s k ag p vs' vf' (.slice (some ⟨g6,0,none⟩) (cZ0 (eU0 p ((b.S s).map Ly.o)) ⟨k,ag,p⟩ (b.S s)).length c6) rs1 fr1)):=cL1 H.out hm hs2 HRM.out HAG.out HPSS.out (by rw [HPI.out];have:=HI.out;omega) (by rw [HPI.out];exact HW.out) HR.out HL.out HF.out HO4.out HN3.out hg6 hG hT hm8 (bA0 (aT0 (Out.refl _ _)) ho8)
          have nT:∀{j:Nat} {vs:Array Value} {t:TypeId},we.heap[j]? = some (.cells vs t (0,0))→t≠233→w.heap.size≤j→¬(j=bb∨(vAt b.v0 b.v1 s).ownBlock=some j):=fun {j vs t} hj ht hl e=>by
           rcases e with e | e
           ·exact dV0 hj HBK4.out.box ht e
           ·have:=hol _ e;omega
          have g1:=aE0 HPB.out hT (nT HPB.out (by decide) hlp);have g2:=aE0 HX4.out hT (nT HX4.out (by decide) lR7)
          have HS15:Hid (∀w',Out (fun j=>j=b.mb) w7 w'→(w'.cell? ⟨bb,1,none⟩=some (.map (some b.mb))∧w'.cell? ⟨w.heap.size,0,none⟩=some (.int .i64 p.id)∧w'.cell? ⟨pb,0,none⟩=some (.int .i64 k)∧w'.cell? ⟨pb,1,none⟩=some (.int .i64 ag)∧w'.cell? ⟨pb,2,none⟩=some (.int .i64 s)∧Out (fun j=>j=b.mb) w7 w')):=fun w' ho=>
           ⟨aA0 (j:=1) (aE0 hG.box ho (hG.map.ne hG.box)) rfl,aA0 (j:=0) (aE0 g2 ho (hG.map.ne g2)) rfl,aA0 (j:=0) (aE0 g1 ho (hG.map.ne g1)) rfl,aA0 (j:=1) (aE0 g1 ho (hG.map.ne g1)) rfl,aA0 (j:=2) (aE0 g1 ho (hG.map.ne g1)) rfl,ho⟩
          have hs0:=HS15.out w7 (Out.refl _ _);have ho2:Out (fun j=>j=b.mb) w7 w8:=bA0 (aT0 (Out.refl _ _)) ho8;clear hG hT hm8 nT g1 g2 hr6 ho6 hg6 hoI e6 f6 hvb hHeld
          go_region_held3 (fun w'=>w'.cell? ⟨bb,1,none⟩=some (.map (some b.mb))∧w'.cell? ⟨w.heap.size,0,none⟩=some (.int .i64 p.id)∧w'.cell? ⟨pb,0,none⟩=some (.int .i64 k)∧w'.cell? ⟨pb,1,none⟩=some (.int .i64 ag)∧w'.cell? ⟨pb,2,none⟩=some (.int .i64 s)∧Out (fun j=>j=b.mb) w7 w')
           ((refine HS15.out _ ?_;first | assumption | exact aT0 (Out.refl _ _))) (fail)
          go_wp2_with fail;go_ret;exact HP.out _ _ (Or.inr (Or.inr (Or.inr ⟨HS.out,HI.out,HR.out,(fun t ht x hx=>HPI.out ▸ HL.out t ht x hx),HF.out,rfl,_,s,k,ag,hs2,by rw [←HPS.out];exact HPSS.out,rfl,HFIN.out⟩)))
         ·go_simp;refine hK.out _ _ (fun _=>HS14.out _ (aT0 (cU0 (Out.refl _ _) _))) (fun hHeld=>?_);replace hHeld:=hHeld rfl;clear hK K;refine aU0 (rs:=[14]) (by kernel_rfl) (by simp) ?_;refine aI0.cons rfl (fun K hK=>?_) aI0.nil;go_simp;refine (cG1 bb b.ab b.mb b.n s vs' vf' b.v0 b.v1 (rs1.set k (some p,ag)) fr1 b.S p we _ hs2 hln HTH.out HBK4.out (bel1 _ _).drew).mono ?_;rintro e w5 ⟨rfl,hb5,hb1,e5,l5⟩;dsimp only;refine hK.out _ _ (fun _=>HS14.out _ (Out.of_below hb1 lR7)) (fun hHeld=>?_);replace hHeld:=hHeld rfl;clear hK K;have hbw:Below we.heap.size we w5:=hb1;have hvb:=(hb5.block we.heap.size (by simp)).trans (heap_alloc_new we (.cells #[.int .i64 k,.int .i64 ag] 240));have hvl:we.heap.size≤we.heap.size:=lR7;refine aU0 (rs:=[17]) (by kernel_rfl) (by simp) ?_;refine aI0.cons rfl (fun K hK=>?_) aI0.nil;go_simp;refine (sR0 _ _ bb b.ab b.mb b.n s vs' vf' b.v0 b.v1 (rs1.set k (some p,ag)) fr1 b.S ⟨k,ag,p⟩ we _ hs2 hln hrk HBK4.out hbw hvb hvl).mono ?_;rintro e w6 ⟨g6,c6,rfl,hr6,ho6,hg6,hoI,e6,f6⟩;dsimp only;refine hK.out _ _ (fun _=>HS14.out _ ho6) (fun hHeld=>?_);replace hHeld:=hHeld rfl;clear hK K;refine aU0 (rs:=[20]) (by kernel_rfl) (by simp) ?_;refine aI0.cons rfl (fun K hK=>?_) aI0.nil;go_simp;refine hK.out _ _ (fun _=>HS14.out _ ho6) (fun hHeld=>?_);replace hHeld:=hHeld rfl;clear hK K;refine aU0 (rs:=[21]) (by kernel_rfl) (by simp) ?_;refine aI0.cons rfl (fun K hK=>?_) aI0.nil;go_simp;refine hK.out _ _ (fun h=>by cases h) (fun _=>?_);refine fT0 (by kernel_rfl) ?_ _;go_wp2_with fail;obtain ⟨hG,hT⟩:=HBK4.out.mid.newRow hs2 hr6 ho6 hg6;generalize w6.setCell ⟨bb,2+s,none⟩ (.slice (some ⟨g6,0,none⟩) (cZ0 (eU0 p ((b.S s).map Ly.o)) ⟨k,ag,p⟩ (b.S s)).length c6)=w7 at hG hT ⊢;obtain ⟨w8,hrun,hm8,ho8⟩:=(hG.map.same (w':=w7.drew) rfl).put (x:=⟨k,ag,p⟩) (S':=upS b.S s (cZ0 (eU0 p ((b.S s).map Ly.o)) ⟨k,ag,p⟩ (b.S s))) hs2 (by show (Lit.int .i64 p.id).wf=true;rw [HPI.out];exact HW.out) (by have:=H.out.small;omega) HL.out (fun t _ y=>cK1 t y);have HFIN:Hid (Goes w w8 bb (m+1) b (nT1 b s k ag p vs' vf' (.slice (some ⟨g6,0,none⟩) (cZ0 (eU0 p ((b.S s).map Ly.o)) ⟨k,ag,p⟩ (b.S s)).length c6) rs1 fr1)):=cL1 H.out hm hs2 HRM.out HAG.out HPSS.out (by rw [HPI.out];have:=HI.out;omega) (by rw [HPI.out];exact HW.out) HR.out HL.out HF.out HO4.out HN3.out hg6 hG hT hm8 (bA0 (aT0 (Out.refl _ _)) ho8)
          have nT:∀{j:Nat} {vs:Array Value} {t:TypeId},we.heap[j]? = some (.cells vs t (0,0))→t≠233→w.heap.size≤j→¬(j=bb∨(vAt b.v0 b.v1 s).ownBlock=some j):=fun {j vs t} hj ht hl e=>by
           rcases e with e | e
           ·exact dV0 hj HBK4.out.box ht e
           ·have:=hol _ e;omega
          have g1:=aE0 HPB.out hT (nT HPB.out (by decide) hlp);have g2:=aE0 HX4.out hT (nT HX4.out (by decide) lR7)
          have HS15:Hid (∀w',Out (fun j=>j=b.mb) w7 w'→(w'.cell? ⟨bb,1,none⟩=some (.map (some b.mb))∧w'.cell? ⟨w.heap.size,0,none⟩=some (.int .i64 p.id)∧w'.cell? ⟨pb,0,none⟩=some (.int .i64 k)∧w'.cell? ⟨pb,1,none⟩=some (.int .i64 ag)∧w'.cell? ⟨pb,2,none⟩=some (.int .i64 s)∧Out (fun j=>j=b.mb) w7 w')):=fun w' ho=>
           ⟨aA0 (j:=1) (aE0 hG.box ho (hG.map.ne hG.box)) rfl,aA0 (j:=0) (aE0 g2 ho (hG.map.ne g2)) rfl,aA0 (j:=0) (aE0 g1 ho (hG.map.ne g1)) rfl,aA0 (j:=1) (aE0 g1 ho (hG.map.ne g1)) rfl,aA0 (j:=2) (aE0 g1 ho (hG.map.ne g1)) rfl,ho⟩
          have hs0:=HS15.out w7 (Out.refl _ _);have ho2:Out (fun j=>j=b.mb) w7 w8:=bA0 (aT0 (Out.refl _ _)) ho8;clear hG hT hm8 nT g1 g2 hr6 ho6 hg6 hoI e6 f6 hvb hHeld
          go_region_held3 (fun w'=>w'.cell? ⟨bb,1,none⟩=some (.map (some b.mb))∧w'.cell? ⟨w.heap.size,0,none⟩=some (.int .i64 p.id)∧w'.cell? ⟨pb,0,none⟩=some (.int .i64 k)∧w'.cell? ⟨pb,1,none⟩=some (.int .i64 ag)∧w'.cell? ⟨pb,2,none⟩=some (.int .i64 s)∧Out (fun j=>j=b.mb) w7 w')
           ((refine HS15.out _ ?_;first | assumption | exact aT0 (Out.refl _ _))) (fail)
          go_wp2_with fail;go_ret;exact HP.out _ _ (Or.inr (Or.inr (Or.inr ⟨HS.out,HI.out,HR.out,(fun t ht x hx=>HPI.out ▸ HL.out t ht x hx),HF.out,rfl,_,s,k,ag,hs2,by rw [←HPS.out];exact HPSS.out,rfl,HFIN.out⟩)))
end Go.Proofs.YtaelphbianmckaaGreatDoor
