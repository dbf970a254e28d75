/- DeskPieces: a part of the proof, packed (the readable form: the templates). -/
import Derived.Test.YtaelphbianmckaaGreatDoorQJ
import Derived.Test.YtaelphbianmckaaGreatDoorQG
import Derived.Test.YtaelphbianmckaaGreatDoorRows
import Derived.WalkKit
import Derived.WalkSpells
import Derived.WalkLawsBesides
import Derived.LaidEql
import Derived.Stop.Asserts
import Derived.RowKitTokens
import Derived.Lib.ReflectliteSlice
import Derived.Handy
import Derived.BigQuiet
import Derived.Lib.ItoaNum
import Derived.Lib.Join
import Derived.Lib.ParseIntB
import Derived.Lib.FieldsP
import Derived.Lib.IndexMore
import Derived.Lib.Strings
import Derived.Test.YtaelphbianmckaaGreatDoorQA
import Derived.Lib.ItoaLen
import Derived.Laws.OwnMore
import Derived.Maps.AppendAt
namespace Go.Proofs.YtaelphbianmckaaGreatDoor
open Go.RowKit
def newM (rs:List (Int×Int)) (st dy p ti mo:Int):Mkt:=⟨rs,st,dy,p,p,ti,mo,[],[],[],1,0,0,0⟩
theorem jX1 {wf:World} {eb tb cb ct nb bb tk n:Nat} {b:BkS} {rs:List (Int×Int)} {st dy p ti mo:Int}
  (hbox:wf.heap[eb]? = some (.cells #[.pointer (some ⟨tb,0,none⟩),.pointer (some ⟨nb,0,none⟩),.pointer (some ⟨bb,0,none⟩),.slice none 0 0,.map (some tk),.int .i64 1,.int .i64 0,.int .i64 ti,.int .i64 mo,.int .i64 0,.int .i64 0] 165 (0,0)))
  (htab:wf.cell? ⟨tb,0,none⟩=some (.slice (some ⟨cb,0,none⟩) rs.length ct)∧cI0 wf cb 0 rs) (hbn:BnAt wf nb st dy p p) (hbk:Bk wf bb 0 b) (hl:Lnk b.S []) (htk:iJ0 wf tk 0 []) (hlt:tb<n∧cb<n) (hn:n≤nb∧n≤eb∧n≤tk∧n≤wf.heap.size) (hf:∀j,b.foot bb j→n≤j) (htkf:¬b.foot bb tk):
  Eg wf eb ⟨tb,cb,ct,nb,bb,0,b,.slice none 0 0,tk,0⟩ (newM rs st dy p ti mo)∧∀j,(⟨tb,cb,ct,nb,bb,0,b,.slice none 0 0,tk,0⟩:EgK).foot eb j→n≤j:=by
 have hall:∀j,(⟨tb,cb,ct,nb,bb,0,b,.slice none 0 0,tk,0⟩:EgK).foot eb j→n≤j:=fun j hj=>by
  rcases hj with rfl | rfl | hj | hj | rfl
  ·exact hn.2.1
  ·exact hn.1
  ·exact hf j hj
  ·cases hj
  ·exact hn.2.2.1
 refine ⟨⟨hbox,htab,Nat.lt_of_lt_of_le hlt.2 hn.2.2.2,hbn,hbk,hl,World.ownsRow_nil _ _ _ _,htk,htkf,lR7,fun j hj e=>?_⟩,hall⟩;have h1:=hall j e;rcases hj with e1 | e1
 ·have e2:j=tb:=e1;have:=hlt.1;omega
 ·have e2:j=cb:=e1;have:=hlt.2;omega
theorem eG1 (w:World):iJ0 (w.alloc (.map #[] 0)) w.heap.size 0 []:=by
 have:=World.ownsMap_made (H:=Unit) w Tryz.prog 3 eA1;exact ⟨_,this,fun _=>rfl⟩
theorem tF1 {W:World} {n n':Nat} (e:n=n') (h:Bk W (n+2) 0 (BkS.none_ n)):Bk W (n'+2) 0 (BkS.none_ n'):=by subst e;exact h
def eH1 (w:World) (rs:List (Int×Int)) (st dy p ti mo:Int) (e:Ending) (w':World):Prop:=∃(eb:Nat) (k:EgK),e=.returned (.tuple #[.pointer (some ⟨eb,0,none⟩),.nilIface])∧Eg w' eb k (newM rs st dy p ti mo)∧k.m=0∧(∀j,k.foot eb j→w.heap.size≤j)∧Below w.heap.size w w'
section
variable {w w2 w3 w4:World} {tb cb ct:Nat} {rs:List (Int×Int)} {st dy p ti mo:Int}
theorem eI1 {wf:World} {eb bb tk:Nat} {b:BkS} (hb2:Below w.heap.size w w2) (hb3:Below w2.heap.size w2 w3) (hb4:Below w3.heap.size w3 w4) (hbf:Below w4.heap.size w4 wf) (ht1:w2.cell? ⟨tb,0,none⟩=some (.slice (some ⟨cb,0,none⟩) rs.length ct)) (ht2:cI0 w2 cb 0 rs) (hlt:tb<w2.heap.size∧cb<w2.heap.size) (hbn:BnAt w3 w2.heap.size st dy p p)
  (hbk:Bk w4 bb 0 b) (hl:Lnk b.S []) (hf:∀j,b.foot bb j→w2.heap.size≤j) (htk:iJ0 wf tk 0 []) (htn:w2.heap.size≤tk) (htf:¬b.foot bb tk) (hen:w2.heap.size≤eb)
  (hx:wf.heap[eb]? = some (.cells #[.pointer (some ⟨tb,0,none⟩),.pointer (some ⟨w2.heap.size,0,none⟩),.pointer (some ⟨bb,0,none⟩),.slice none 0 0,.map (some tk),.int .i64 1,.int .i64 0,.int .i64 ti,.int .i64 mo,.int .i64 0,.int .i64 0] 165 (0,0))):
  eH1 w rs st dy p ti mo (.returned (.tuple #[.pointer (some ⟨eb,0,none⟩),.nilIface])) wf:=by
 have h34:=aC0 hb4 hbf;have h24:=aC0 hb3 h34;obtain ⟨g1,g2⟩:=jX1 (n:=w2.heap.size) hx ⟨fP0 ht1 h24,ht2.below h24 lR7⟩ (hbn.below h34) (hbk.below hbf lR7) hl htk hlt ⟨lR7,hen,htn,h24.size⟩ hf htf;exact ⟨eb,_,rfl,g1,rfl,fun j hj=>Nat.le_trans hb2.size (g2 j hj),aC0 hb2 h24⟩
theorem tG1 (hb2:Below w.heap.size w w2) (hb3:Below w2.heap.size w2 w3) (hb4:Below w3.heap.size w3 w4) (ht1:w2.cell? ⟨tb,0,none⟩=some (.slice (some ⟨cb,0,none⟩) rs.length ct)) (ht2:cI0 w2 cb 0 rs) (hlt:tb<w2.heap.size∧cb<w2.heap.size) (hbn:BnAt w3 w2.heap.size st dy p p) (hbk:Bk w4 (w3.heap.size+2) 0 (BkS.none_ w3.heap.size)):
  eH1 w rs st dy p ti mo (.returned (.tuple #[.pointer (some ⟨w4.heap.size+1,0,none⟩),.nilIface])) ((w4.alloc (.map #[] 0)).alloc (.cells #[.pointer (some ⟨tb,0,none⟩),.pointer (some ⟨w2.heap.size,0,none⟩),.pointer (some ⟨w3.heap.size+2,0,none⟩),.slice none 0 0,.map (some w4.heap.size),.int .i64 1,.int .i64 0,.int .i64 ti,.int .i64 mo,.int .i64 0,.int .i64 0] 165)):=by
 have hs3:=hb3.size;have hs4:=hb4.size;exact eI1 hb2 hb3 hb4 (bel2 _ _ _) ht1 ht2 hlt hbn hbk Lnk.start (fun j hj=>Nat.le_trans hs3 (vK0 w3 hj)) ((eG1 w4).same ((bel1 _ _).block _ (by simp))) (by omega) (fun e=>by have:=hbk.lt e;omega) (by omega) (dK0 _ _ _)
theorem tH1 (hb2:Below w.heap.size w w2) (hb3:Below w2.heap.size w2 w3) (hb4:Below w3.heap.size w3 w4) (hbc:Below (w3.alloc (.map #[] 0)).heap.size (w3.alloc (.map #[] 0)) w4) (ht1:w2.cell? ⟨tb,0,none⟩=some (.slice (some ⟨cb,0,none⟩) rs.length ct)) (ht2:cI0 w2 cb 0 rs) (hlt:tb<w2.heap.size∧cb<w2.heap.size) (hbn:BnAt w3 w2.heap.size st dy p p) (hbk:Bk w4 (w3.heap.size+1+2) 0 (BkS.none_ (w3.heap.size+1))):
  eH1 w rs st dy p ti mo (.returned (.tuple #[.pointer (some ⟨w4.heap.size,0,none⟩),.nilIface])) (w4.alloc (.cells #[.pointer (some ⟨tb,0,none⟩),.pointer (some ⟨w2.heap.size,0,none⟩),.pointer (some ⟨w3.heap.size+1+2,0,none⟩),.slice none 0 0,.map (some w3.heap.size),.int .i64 1,.int .i64 0,.int .i64 ti,.int .i64 mo,.int .i64 0,.int .i64 0] 165)):=by
 have hs3:=hb3.size;have hs4:=hb4.size
 have hno:∀{j:Nat},(BkS.none_ (w3.heap.size+1)).foot (w3.heap.size+1+2) j→w3.heap.size+1≤j:=fun {j} hj=>by
  have e:(w3.alloc (.map #[] 0)).heap.size=w3.heap.size+1:=by simp
  have:=vK0 (w3.alloc (.map #[] 0)) (k:=j) (by rw [e];exact hj);omega
 exact eI1 hb2 hb3 hb4 (bel1 _ _) ht1 ht2 hlt hbn hbk Lnk.start (fun j hj=>by have:=hno hj;omega) ((eG1 w3).same (((bel1 w4 _).block _ (by have:=hbc.size;simp at this;omega)).trans (hbc.block _ (by simp)))) (by omega) (fun e=>by have:=hno e;omega) (by omega) (heap_alloc_new _ _)
end
set_option maxRecDepth 8000 in
set_option maxHeartbeats 4000000 in
theorem jY1 (tb0 off cap:Nat) (rs:List (Int×Int)) (st dy p ti mo:Int) (w:World) (h:cI0 w tb0 off rs) (hwf:mD0 rs) (hne:0<rs.length) (hlen:rs.length≤60) (htab:tabE rs=(0,-1)) (hok:lJ0 st dy p=true) (hti:1≤ti∧ti≤1000000) (hmo:0≤mo∧mo≤10):
  Calls Tryz.prog 65 #[.agg #[.slice (some ⟨tb0,off,none⟩) rs.length cap,.int .i64 st,.int .i64 dy,.int .i64 p,.int .i64 ti,.int .i64 mo]] w fun e w'=>eH1 w rs st dy p ti mo e w':=by
 have hmm:=@run_makeMap Tryz.prog;have HR:Hid (cI0 w tb0 off rs):=h;have HW:Hid (mD0 rs):=hwf;have HT:Hid (tabE rs=(0,-1)):=htab;have HO:Hid (lJ0 st dy p=true):=hok;clear h hwf htab hok;go_enter Tryz.func65,Tryz.ntmps65;go_upto_region 1 with fail;have hx:=heap_alloc_new w (.cells #[.slice (some ⟨tb0,off,none⟩) rs.length cap,.int .i64 st,.int .i64 dy,.int .i64 p,.int .i64 ti,.int .i64 mo] 29);have hb:=bel1 w (.cells #[.slice (some ⟨tb0,off,none⟩) rs.length cap,.int .i64 st,.int .i64 dy,.int .i64 p,.int .i64 ti,.int .i64 mo] 29);generalize w.alloc (.cells #[.slice (some ⟨tb0,off,none⟩) rs.length cap,.int .i64 st,.int .i64 dy,.int .i64 p,.int .i64 ti,.int .i64 mo] 29)=w1 at hx hb ⊢;have c0:w1.cell? ⟨w.heap.size,0,none⟩=some (.slice (some ⟨tb0,off,none⟩) rs.length cap):=aA0 (j:=0) hx rfl;have HX:Hid _:=hx;have HB:Hid (Below w.heap.size w w1):=hb;clear hx hb;go_wp2_with fail;refine (dR1 tb0 off cap rs w1 (HR.out.below HB.out lR7) HW.out hne hlen).mono ?_;rintro e w2 ⟨t,err,rfl,hN,hb2⟩;rcases hN with ⟨_,rfl,tb,rfl,cb,ct,ht1,ht2⟩ | ⟨h0,_⟩
 ·have hx2:=aD0 HX.out hb2 lR7;have HB2:Hid (Below w.heap.size w w2):=aC0 HB.out hb2;have HT1:Hid (w2.cell? ⟨tb,0,none⟩=some (.slice (some ⟨cb,0,none⟩) rs.length ct)):=ht1;have HT2:Hid (cI0 w2 cb 0 rs):=ht2
  have hcb:cb<w2.heap.size:=by
   have:=(ht2.row hne).1;exact World.block_lt_of_cell? w2 _ this
  have htb:tb<w2.heap.size:=World.block_lt_of_cell? w2 _ ht1;have HLT:Hid (tb<w2.heap.size∧cb<w2.heap.size):=⟨htb,hcb⟩;have c1:w2.cell? ⟨w.heap.size,1,none⟩=some (.int .i64 st):=aA0 (j:=1) hx2 rfl;have c2:w2.cell? ⟨w.heap.size,2,none⟩=some (.int .i64 dy):=aA0 (j:=2) hx2 rfl;have c3:w2.cell? ⟨w.heap.size,3,none⟩=some (.int .i64 p):=aA0 (j:=3) hx2 rfl;have HX2:Hid _:=hx2;clear hb2 hx2 ht1 ht2 c0 hcb htb;go_wp2_with fail;refine (yC0 st dy p w2 HO.out).mono ?_;rintro e w3 ⟨rfl,hb3,hbn⟩;have hx3:=aD0 HX2.out hb3 lR7;have HB3:Hid (Below w2.heap.size w2 w3):=hb3;have HBN:Hid (BnAt w3 w2.heap.size st dy p p):=hbn;have d4:w3.cell? ⟨w.heap.size,4,none⟩=some (.int .i64 ti):=aA0 (j:=4) hx3 rfl;have d5:w3.cell? ⟨w.heap.size,5,none⟩=some (.int .i64 mo):=aA0 (j:=5) hx3 rfl;have HSS:Hid (∀w',Below w3.heap.size w3 w'→w'.cell? ⟨w.heap.size,4,none⟩=some (.int .i64 ti)∧w'.cell? ⟨w.heap.size,5,none⟩=some (.int .i64 mo)∧Below w3.heap.size w3 w'):=fun w' hb=>⟨aA0 (j:=4) (aD0 hx3 hb lR7) rfl,aA0 (j:=5) (aD0 hx3 hb lR7) rfl,hb⟩
  clear hb3 hbn hx3 c1 c2 c3;go_upto_region 9 with fail;clear d4 d5
  go_region_held3 (fun w'=>w'.cell? ⟨w.heap.size,4,none⟩=some (.int .i64 ti)∧w'.cell? ⟨w.heap.size,5,none⟩=some (.int .i64 mo)∧Below w3.heap.size w3 w')
   ((refine HSS.out _ ?_;(repeat' first | assumption | exact HB4.out | exact Below.refl _ _ | refine Below.drew ?_ | refine Below.alloc ?_ ?_ _ | exact lR7 | (simp;done) | (simp;omega) | (have h9:=HB4.out.size;simp at h9 ⊢;omega))))
   ((go_at_call 114;refine (qQ1 _).mono ?_;rintro e w4 ⟨rfl,hbk,hb4⟩;have HBK:Hid _:=hbk;have HB4':Hid _:=hb4;have HB4:Hid (Below w3.heap.size w3 w4):=(aC0 (by (repeat' first | assumption | exact Below.refl _ _ | exact lR7 | refine Below.drew ?_ | refine Below.alloc ?_ ?_ _ | (simp;done) | (simp;omega))) hb4);clear hbk hb4))
  all_goals go_wp2_with fail
  all_goals go_ret2
  all_goals first | exact tG1 HB2.out HB3.out HB4.out HT1.out HT2.out HLT.out HBN.out HBK.out | exact tH1 HB2.out HB3.out HB4.out (aC0 (Below.refl _ _).drew HB4'.out) HT1.out HT2.out HLT.out HBN.out (tF1 (by simp) HBK.out)
 ·exact absurd (by rw [HT.out]) h0
end Go.Proofs.YtaelphbianmckaaGreatDoor
namespace Go.Proofs.YtaelphbianmckaaGreatDoor
open Go.RowKit Go.Extern.Stop Go.Stop Go.Extern
theorem Tryz.vP (t:Addr) (w:World):(ReflectliteValue.unpack (.iface 235 (.pointer (some t)))).run Tryz.prog w
  = .ok (.agg #[.pointer (some ⟨12,235,none⟩),.pointer (some ⟨w.heap.size,0,none⟩),.int .u64 150]) (w.alloc (.cells #[.pointer (some t)] 235)):=by kernel_rfl
theorem Tryz.tP (a:Addr) (w:World):(ReflectliteValue.methodAny (ReflectliteValue.valueError "reflectlite.Value.Type" 0) (fun t _ _ _=>ReflectliteType.toType t) #[.agg #[.pointer (some ⟨12,235,none⟩),.pointer (some a),.int .u64 150]]).run Tryz.prog w
  = .ok (.iface 289 (.agg #[.pointer (some ⟨12,235,none⟩)])) w:=by kernel_rfl
theorem Tryz.mKind (h:Value) (w:World):(Go.method 506 289 (.agg #[h]) "Kind").run Tryz.prog w=.ok (328,h) w:=by kernel_rfl
theorem Tryz.kP (w:World):((ReflectliteType.abiMethod fun t=>(fun a:Nat=>Value.int IntKind.u8 (a:Int)) <$> Rtype.kind t) #[.pointer (some ⟨12,235,none⟩)]).run Tryz.prog w=.ok (.int .u8 22) w:=by kernel_rfl
theorem Tryz.kE (w:World):((ReflectliteType.abiMethod fun t=>(fun a:Nat=>Value.int IntKind.u8 (a:Int)) <$> Rtype.kind t) #[.pointer (some ⟨12,26,none⟩)]).run Tryz.prog w=.ok (.int .u8 2) w:=by kernel_rfl
theorem Tryz.partsP (a:Addr) (w:World):(ReflectliteValue.parts (.agg #[.pointer (some ⟨12,235,none⟩),.pointer (some a),.int .u64 150])).run Tryz.prog w=.ok (some (235,a,150)) w:=by kernel_rfl
theorem Tryz.isNilP (a p:Addr) (W:World) (ha:W.cell? a=some (.pointer (some p))):
  (ReflectliteValue.method (ReflectliteValue.valueError "reflectlite.Value.IsNil" 0) ReflectliteValue.isNil #[.agg #[.pointer (some ⟨12,235,none⟩),.pointer (some a),.int .u64 150]]).run Tryz.prog W=.ok (.bool false) W:=by
 rw [Lib.rl_method];simp only [Sem.run_bind,Tryz.partsP,Result.andThen];simp [ReflectliteValue.isNil,loadVar,isAgg,underlying,Tryz.underlying235,ha,Result.andThen]
theorem Tryz.mElem (h:Value) (w:World):(Go.method 506 289 (.agg #[h]) "Elem").run Tryz.prog w=.ok (341,.agg #[h]) w:=by kernel_rfl
theorem Tryz.mImplements (h:Value) (w:World):(Go.method 506 289 (.agg #[h]) "Implements").run Tryz.prog w=.ok (342,.agg #[h]) w:=by kernel_rfl
theorem Tryz.mAssignableTo (h:Value) (w:World):(Go.method 506 289 (.agg #[h]) "AssignableTo").run Tryz.prog w=.ok (340,.agg #[h]) w:=by kernel_rfl
theorem Tryz.elemP (w:World):(ReflectliteType.method ReflectliteType.elem #[.agg #[.pointer (some ⟨12,235,none⟩)]]).run Tryz.prog w=.ok (.iface 289 (.agg #[.pointer (some ⟨12,26,none⟩)])) w:=by kernel_rfl
theorem Tryz.implementsE (w:World):(ReflectliteType.relation "Implements" ReflectliteType.implements_ #[.agg #[.pointer (some ⟨12,26,none⟩)],.iface 289 (.agg #[.pointer (some ⟨12,43,none⟩)])]).run Tryz.prog w=.ok (.bool true) w:=by kernel_rfl
theorem Tryz.typeOfE (v:Value) (w:World):(ReflectliteType.typeOf #[.iface 26 v]).run Tryz.prog w=.ok (.iface 289 (.agg #[.pointer (some ⟨12,26,none⟩)])) w:=by kernel_rfl
theorem Tryz.assignableE (w:World):(ReflectliteType.relation "AssignableTo" ReflectliteType.assignableTo #[.agg #[.pointer (some ⟨12,26,none⟩)],.iface 289 (.agg #[.pointer (some ⟨12,26,none⟩)])]).run Tryz.prog w=.ok (.bool true) w:=by kernel_rfl
theorem Tryz.valueOfE (n:Int) (w:World):(ReflectliteValue.unpack (.iface 26 (.int .i64 n))).run Tryz.prog w
  = .ok (.agg #[.pointer (some ⟨12,26,none⟩),.pointer (some ⟨w.heap.size,0,none⟩),.int .u64 130]) (w.alloc (.cells #[.int .i64 n] 26)):=by kernel_rfl
theorem Tryz.elemOfP (w:World):(Rtype.elem? 235).run Tryz.prog w=.ok (some 26) w:=by kernel_rfl
theorem Tryz.mkE (p:Addr) (w:World):(ReflectliteValue.mk 26 p ReflectliteValue.flagAddr).run Tryz.prog w=.ok (.agg #[.pointer (some ⟨12,26,none⟩),.pointer (some p),.int .u64 386]) w:=by kernel_rfl
theorem Tryz.elemVP (a p:Addr) (W:World) (ha:W.cell? a=some (.pointer (some p))):
  (ReflectliteValue.method (ReflectliteValue.valueError "reflectlite.Value.Elem" 0) ReflectliteValue.elem #[.agg #[.pointer (some ⟨12,235,none⟩),.pointer (some a),.int .u64 150]]).run Tryz.prog W
   = .ok (.agg #[.pointer (some ⟨12,26,none⟩),.pointer (some p),.int .u64 386]) W:=by
 rw [Lib.rl_method];simp only [Sem.run_bind,Tryz.partsP,Result.andThen];simp [ReflectliteValue.elem,loadVar,isAgg,underlying,Tryz.underlying235,ha,Result.andThen,Tryz.elemOfP,Tryz.mkE]
theorem Tryz.partsEa (a:Addr) (w:World):(ReflectliteValue.parts (.agg #[.pointer (some ⟨12,26,none⟩),.pointer (some a),.int .u64 386])).run Tryz.prog w=.ok (some (26,a,386)) w:=by kernel_rfl
theorem Tryz.partsE (a:Addr) (w:World):(ReflectliteValue.parts (.agg #[.pointer (some ⟨12,26,none⟩),.pointer (some a),.int .u64 130])).run Tryz.prog w=.ok (some (26,a,130)) w:=by kernel_rfl
theorem Tryz.directE (w:World):(Rtype.directlyAssignable 26 26).run Tryz.prog w=.ok true w:=by kernel_rfl
theorem oS1 {motive:Array Value→Sort _} (v x:Value) (f:(v x:Value)→motive #[v,x]) (g:(a:Array Value)→motive a):
  ReflectliteValue.set.match_3 motive #[v,x] f g=f v x:=rfl
theorem Tryz.setE (ta b:Addr) (n:Int) (old:Value) (W:World) (hb:W.cell? b=some (.int .i64 n)) (ht:W.cell? ta=some old) (hf:W.frozen? ta=false):
  (ReflectliteValue.set #[.agg #[.pointer (some ⟨12,26,none⟩),.pointer (some ta),.int .u64 386],.agg #[.pointer (some ⟨12,26,none⟩),.pointer (some b),.int .u64 130]]).run Tryz.prog W
   = .ok (.tuple #[]) (W.setCell ta (.int .i64 n)):=by
 delta ReflectliteValue.set
 rw [oS1];simp only [Sem.run_bind,Tryz.partsEa,Tryz.partsE,Result.andThen];simp [ReflectliteValue.flagAddr,loadVar,isAgg,underlying,Tryz.underlying26,hb,Result.andThen,Tryz.directE,storeVar,Value.cells,storeCells,Addr.add];rw [run_store Tryz.prog W ta _ _ (by rfl)];simp [ht,hf]
def ErrT (w:World):Prop:=w.cell? ⟨6,0,none⟩=some (.iface 289 (.agg #[.pointer (some ⟨12,43,none⟩)]))
theorem ErrT.lt {w:World} (hg:ErrT w):6<w.heap.size:=by
 rcases Nat.lt_or_ge 6 w.heap.size with h | h
 ·exact h
 ·simp [ErrT,World.cell?,Array.getElem?_eq_none h] at hg
theorem ErrT.below {w w':World} (hg:ErrT w) (hb:Below w.heap.size w w'):ErrT w':=(hb.cell (p:=⟨6,0,none⟩) hg.lt).trans hg
theorem Tryz.typeOfA (v:Value) (w:World):(ReflectliteType.typeOf #[.iface 215 v]).run Tryz.prog w=.ok (.iface 289 (.agg #[.pointer (some ⟨12,215,none⟩)])) w:=by kernel_rfl
theorem Tryz.assignableA (w:World):(ReflectliteType.relation "AssignableTo" ReflectliteType.assignableTo #[.agg #[.pointer (some ⟨12,215,none⟩)],.iface 289 (.agg #[.pointer (some ⟨12,26,none⟩)])]).run Tryz.prog w=.ok (.bool false) w:=by kernel_rfl
theorem Tryz.noAsA (v:Value) (xT:TypeId) (w:World):(Instr.typeAssert (.iface 215 v) xT 336 true).run Tryz.prog w=.ok (.tuple #[.nilIface,.bool false]) w:=run_typeAssert_lacksB Tryz.underlying336 (by kernel_rfl) (by kernel_rfl) v xT w
theorem Tryz.unwrapA (v:Value) (xT:TypeId) (w:World):(Instr.typeAssert (.iface 215 v) xT 339 true).run Tryz.prog w=.ok (.tuple #[.iface 215 v,.bool true]) w:=run_typeAssert_hasB Tryz.underlying339 (by kernel_rfl) v xT w
theorem dB0 {w:World} (o:Obj) {a:Addr} (h:a.block<w.heap.size):(w.alloc o).cell? a=w.cell? a:=World.cell?_alloc_lt _ _ a h
theorem mW0 {w:World} (o:Obj) {a:Addr} (h:a.block<w.heap.size):(w.alloc o).frozen? a=w.frozen? a:=World.frozen?_alloc_old _ _ a (Nat.ne_of_lt h)
theorem bK0 {w:World} {a:Addr} {v:Value} (h:w.cell? a=some v):a.block<w.heap.size:=by
 rcases Nat.lt_or_ge a.block w.heap.size with h' | h'
 ·exact h'
 ·simp [World.cell?,Array.getElem?_eq_none h'] at h
set_option maxHeartbeats 4000000 in
theorem jZ1 (n:Int) (t a:Addr) (old:Value) (w:World) (ha:w.cell? a=some (.pointer (some t))) (ht0:w.cell? t=some old) (hf0:w.frozen? t=false):
  Calls Tryz.prog 233 #[.iface 26 (.int .i64 n),.iface 235 (.pointer (some t)),.agg #[.pointer (some ⟨12,235,none⟩),.pointer (some a),.int .u64 150],.iface 289 (.agg #[.pointer (some ⟨12,26,none⟩)])] w fun ev w'=>ev=.returned (.bool true)
   ∧w'=((w.alloc (.cells #[.pointer (some ⟨12,235,none⟩),.pointer (some a),.int .u64 150] 208)).alloc (.cells #[.int .i64 n] 26)).setCell t (.int .i64 n):=by
 have hal:=bK0 ha;have htl:=bK0 ht0;have h6:=@run_callFunc_extern Tryz.prog 157 _ (fun args=>ReflectliteValue.unpack (args.getD 0 (.tuple #[]))) Tryz.func157 (by kernel_rfl) (by kernel_rfl) (by kernel_rfl) (by kernel_rfl);have h10:=@run_callFunc_extern Tryz.prog 262 _ ReflectliteType.typeOf Tryz.func262 (by kernel_rfl) (by kernel_rfl) (by kernel_rfl) (by kernel_rfl);have h35:=@run_callFunc_extern Tryz.prog 340 _ (ReflectliteType.relation "AssignableTo" ReflectliteType.assignableTo) Tryz.func340 (by kernel_rfl) (by kernel_rfl) (by kernel_rfl) (by kernel_rfl);have h11:=@run_callFunc_extern Tryz.prog 263 _ (ReflectliteValue.method (ReflectliteValue.valueError "reflectlite.Value.Elem" 0) ReflectliteValue.elem) Tryz.func263 (by kernel_rfl) (by kernel_rfl) (by kernel_rfl) (by kernel_rfl);have h12:=@run_callFunc_extern Tryz.prog 264 _ ReflectliteValue.set Tryz.func264 (by kernel_rfl) (by kernel_rfl) (by kernel_rfl) (by kernel_rfl);have tO:=Tryz.typeOfE;have mA:=Tryz.mAssignableTo;have aE:=Tryz.assignableE;have vE:=Tryz.valueOfE;have el:=Tryz.elemVP a t (w.alloc (.cells #[.pointer (some ⟨12,235,none⟩),.pointer (some a),.int .u64 150] 208)) (by rw [dB0 _ hal];exact ha)
 have st:=Tryz.setE t ⟨w.heap.size+1,0,none⟩ n old ((w.alloc (.cells #[.pointer (some ⟨12,235,none⟩),.pointer (some a),.int .u64 150] 208)).alloc (.cells #[.int .i64 n] 26))
  (by rw [World.cell?_alloc_at _ _ _ _ (by simp)];rfl)
  (by rw [dB0 _ (by simp;omega),dB0 _ htl];exact ht0)
  (by rw [mW0 _ (by simp;omega),mW0 _ htl];exact hf0)
 go_enter Tryz.func233,Tryz.ntmps233;go_wp2;refine wp_loop_rounds 1 ?_;rw [rounds_succ];go_wp2;go_ret;exact ⟨rfl,rfl⟩
set_option maxHeartbeats 4000000 in
theorem tI1 (n:Int) (b o:Nat) (t a:Addr) (old:Value) (w:World) (hn:w.cell? ⟨b,o,none⟩=some (.int .i64 n)) (ha:w.cell? a=some (.pointer (some t))) (ht0:w.cell? t=some old) (hf0:w.frozen? t=false):
  Calls Tryz.prog 233 #[.iface 215 (.pointer (some ⟨b,o,none⟩)),.iface 235 (.pointer (some t)),.agg #[.pointer (some ⟨12,235,none⟩),.pointer (some a),.int .u64 150],.iface 289 (.agg #[.pointer (some ⟨12,26,none⟩)])] w fun ev w'=>ev=.returned (.bool true)
   ∧w'=((w.alloc (.cells #[.pointer (some ⟨12,235,none⟩),.pointer (some a),.int .u64 150] 208)).alloc (.cells #[.int .i64 n] 26)).setCell t (.int .i64 n):=by
 have hal:=bK0 ha;have htl:=bK0 ht0;have hbl:=bK0 hn;have h6:=@run_callFunc_extern Tryz.prog 157 _ (fun args=>ReflectliteValue.unpack (args.getD 0 (.tuple #[]))) Tryz.func157 (by kernel_rfl) (by kernel_rfl) (by kernel_rfl) (by kernel_rfl);have h10:=@run_callFunc_extern Tryz.prog 262 _ ReflectliteType.typeOf Tryz.func262 (by kernel_rfl) (by kernel_rfl) (by kernel_rfl) (by kernel_rfl);have h35:=@run_callFunc_extern Tryz.prog 340 _ (ReflectliteType.relation "AssignableTo" ReflectliteType.assignableTo) Tryz.func340 (by kernel_rfl) (by kernel_rfl) (by kernel_rfl) (by kernel_rfl);have h11:=@run_callFunc_extern Tryz.prog 263 _ (ReflectliteValue.method (ReflectliteValue.valueError "reflectlite.Value.Elem" 0) ReflectliteValue.elem) Tryz.func263 (by kernel_rfl) (by kernel_rfl) (by kernel_rfl) (by kernel_rfl);have h12:=@run_callFunc_extern Tryz.prog 264 _ ReflectliteValue.set Tryz.func264 (by kernel_rfl) (by kernel_rfl) (by kernel_rfl) (by kernel_rfl);have tO:=Tryz.typeOfE;have tA:=Tryz.typeOfA;have mA:=Tryz.mAssignableTo;have aE:=Tryz.assignableE;have aA:=Tryz.assignableA;have nA:=Tryz.noAsA;have uA:=Tryz.unwrapA;have vE:=Tryz.valueOfE;have hn2:(w.alloc (.cells #[.pointer (some ⟨12,235,none⟩),.pointer (some a),.int .u64 150] 208)).cell? ⟨b,o,none⟩=some (.int .i64 n):=by rw [dB0 _ hbl];exact hn
 have el:=Tryz.elemVP a t (w.alloc (.cells #[.pointer (some ⟨12,235,none⟩),.pointer (some a),.int .u64 150] 208)) (by rw [dB0 _ hal];exact ha)
 have st:=Tryz.setE t ⟨w.heap.size+1,0,none⟩ n old ((w.alloc (.cells #[.pointer (some ⟨12,235,none⟩),.pointer (some a),.int .u64 150] 208)).alloc (.cells #[.int .i64 n] 26))
  (by rw [World.cell?_alloc_at _ _ _ _ (by simp)];rfl)
  (by rw [dB0 _ (by simp;omega),dB0 _ htl];exact ht0)
  (by rw [mW0 _ (by simp;omega),mW0 _ htl];exact hf0)
 go_enter Tryz.func233,Tryz.ntmps233;go_wp2;refine wp_loop_rounds 2 ?_;rw [rounds_succ];go_wp2;rw [rounds_succ];go_wp2;go_ret;exact ⟨rfl,rfl⟩
set_option maxHeartbeats 4000000 in
theorem rF1 (te:TypeId) (ve:Value) (t:Addr) (w:World) (hg:ErrT w) (Q:Ending→World→Prop)
  (h:∀W:World,Below w.heap.size w W→W.cell? ⟨w.heap.size,0,none⟩=some (.pointer (some t))→
   Calls Tryz.prog 233 #[.iface te ve,.iface 235 (.pointer (some t)),.agg #[.pointer (some ⟨12,235,none⟩),.pointer (some ⟨w.heap.size,0,none⟩),.int .u64 150],.iface 289 (.agg #[.pointer (some ⟨12,26,none⟩)])] W
    fun e w'=>(∃r,e=.returned (.bool r))∧Q e w'):
  Calls Tryz.prog 166 #[.iface te ve,.iface 235 (.pointer (some t))] w Q:=by
 have hlt:=hg.lt;have h6:=@run_callFunc_extern Tryz.prog 157 _ (fun args=>ReflectliteValue.unpack (args.getD 0 (.tuple #[]))) Tryz.func157 (by kernel_rfl) (by kernel_rfl) (by kernel_rfl) (by kernel_rfl);have h7:=@run_callFunc_extern Tryz.prog 231 _ (ReflectliteValue.methodAny (ReflectliteValue.valueError "reflectlite.Value.Type" 0) (fun t _ _ _=>ReflectliteType.toType t)) Tryz.func231 (by kernel_rfl) (by kernel_rfl) (by kernel_rfl) (by kernel_rfl);have h8:=@run_callFunc_extern Tryz.prog 232 _ (ReflectliteValue.method (ReflectliteValue.valueError "reflectlite.Value.IsNil" 0) ReflectliteValue.isNil) Tryz.func232 (by kernel_rfl) (by kernel_rfl) (by kernel_rfl) (by kernel_rfl);have h27:=@run_callFunc_extern Tryz.prog 328 _ (ReflectliteType.abiMethod fun t=>do pure (.int .u8 (←Rtype.kind t))) Tryz.func328 (by kernel_rfl) (by kernel_rfl) (by kernel_rfl) (by kernel_rfl);have h37:=@run_callFunc_extern Tryz.prog 341 _ (ReflectliteType.method ReflectliteType.elem) Tryz.func341 (by kernel_rfl) (by kernel_rfl) (by kernel_rfl) (by kernel_rfl);have h38:=@run_callFunc_extern Tryz.prog 342 _ (ReflectliteType.relation "Implements" ReflectliteType.implements_) Tryz.func342 (by kernel_rfl) (by kernel_rfl) (by kernel_rfl) (by kernel_rfl);have f6:=Tryz.vP;have f7:=Tryz.tP;have mK:=Tryz.mKind;have mE:=Tryz.mElem;have mI:=Tryz.mImplements;have k27:=Tryz.kP;have k25:=Tryz.kE;have e27:=Tryz.elemP;have i25:=Tryz.implementsE;have n8:=Tryz.isNilP ⟨w.heap.size,0,none⟩ t ((w.alloc (.cells #[.pointer (some t)] 235)).alloc (.cells #[.pointer (some ⟨12,235,none⟩),.pointer (some ⟨w.heap.size,0,none⟩),.int .u64 150] 208)) (by simp)
 have hg2:((w.alloc (.cells #[.pointer (some t)] 235)).alloc (.cells #[.pointer (some ⟨12,235,none⟩),.pointer (some ⟨w.heap.size,0,none⟩),.int .u64 150] 208)).cell? ⟨6,0,none⟩=some (.iface 289 (.agg #[.pointer (some ⟨12,43,none⟩)])):=by
  rw [dB0 _ (by simp <;> omega),dB0 _ hlt];exact hg
 have H:Hid (∀W:World,Below w.heap.size w W→W.cell? ⟨w.heap.size,0,none⟩=some (.pointer (some t))→
   Calls Tryz.prog 233 #[.iface te ve,.iface 235 (.pointer (some t)),.agg #[.pointer (some ⟨12,235,none⟩),.pointer (some ⟨w.heap.size,0,none⟩),.int .u64 150],.iface 289 (.agg #[.pointer (some ⟨12,26,none⟩)])] W
    fun e w'=>(∃r,e=.returned (.bool r))∧Q e w'):=h
 clear h;go_enter Tryz.func166,Tryz.ntmps166;go_wp2_with fail;refine (H.out _ ?_ ?_).mono ?_
 ·exact ((Below.refl _ _).alloc lR7 _).alloc (by simp) _
 ·rw [dB0 _ (by simp)];exact World.cell?_alloc_at _ _ _ _ rfl
 ·rintro e w' ⟨⟨r,rfl⟩,hq⟩;go_wp2_with fail;exact hq
def tW0 (w:World) (err:Value) (n k:Int):Prop:=
 (err=.nilIface∧n=0∧k=-1)∨(err=.iface 26 (.int .i64 n)∧k=-1)
  ∨(∃b o:Nat,err=.iface 215 (.pointer (some ⟨b,o,none⟩))∧w.cell? ⟨b,o,none⟩=some (.int .i64 n)∧w.cell? ⟨b,o+1,none⟩=some (.int .i64 k))
theorem yJ0 {w W w':World} {t:Addr} {n:Int} {o1 o2:Obj} {old:Value} (hb:Below w.heap.size w W) (ht:W.cell? t=some old) (hw:w'=((W.alloc o1).alloc o2).setCell t (.int .i64 n)) (B:Nat) (hBt:B≤t.block) (hBw:B≤w.heap.size):
  w'.cell? t=some (.int .i64 n)∧Below B w w':=by
 have htl:=bK0 ht;have hs:=hb.size;subst hw;refine ⟨World.cell?_setCell_same' _ _ _ ?_,?_⟩
 ·rw [dB0 _ (by simp;omega),dB0 _ htl,ht];rfl
 ·exact (((hb.mono hBw).alloc (by omega) _).alloc (by simp;omega) _).setCell hBt _
set_option maxHeartbeats 400000 in
theorem kA1 (w:World):Calls Tryz.prog 115 #[.nilIface] w fun e w'=>e=.returned (.int .i64 0)∧w'=w:=by
 go_enter Tryz.func115,Tryz.ntmps115;go_wp2;go_ret;exact ⟨rfl,rfl⟩
theorem kB1 (n:Int) (t:Addr) (w:World) (hg:ErrT w) (ht:w.cell? t=some (.int .i64 0)) (hf:w.frozen? t=false):
  Calls Tryz.prog 166 #[.iface 26 (.int .i64 n),.iface 235 (.pointer (some t))] w fun e w'=>e=.returned (.bool true)∧w'.cell? t=some (.int .i64 n)∧Below t.block w w':=
 rF1 _ _ t w hg _ fun W hb ha=>(jZ1 n t _ (.int .i64 0) W ha ((hb.cell (bK0 ht)).trans ht) ((hb.frozen (bK0 ht)).trans hf)).mono fun _ _ ⟨he,hw⟩=>
  have h:=yJ0 hb ((hb.cell (bK0 ht)).trans ht) hw t.block lR7 (Nat.le_of_lt (bK0 ht))
  ⟨⟨_,he⟩,he,h.1,h.2⟩
theorem tJ1 (n:Int) (b o:Nat) (t:Addr) (w:World) (hg:ErrT w) (hn:w.cell? ⟨b,o,none⟩=some (.int .i64 n)) (ht:w.cell? t=some (.int .i64 0)) (hf:w.frozen? t=false):
  Calls Tryz.prog 166 #[.iface 215 (.pointer (some ⟨b,o,none⟩)),.iface 235 (.pointer (some t))] w fun e w'=>e=.returned (.bool true)∧w'.cell? t=some (.int .i64 n)∧Below t.block w w':=
 rF1 _ _ t w hg _ fun W hb ha=>(tI1 n b o t _ (.int .i64 0) W ((hb.cell (p:=⟨b,o,none⟩) (bK0 (a:=⟨b,o,none⟩) hn)).trans hn) ha ((hb.cell (bK0 ht)).trans ht) ((hb.frozen (bK0 ht)).trans hf)).mono fun _ _ ⟨he,hw⟩=>
  have h:=yJ0 hb ((hb.cell (bK0 ht)).trans ht) hw t.block lR7 (Nat.le_of_lt (bK0 ht))
  ⟨⟨_,he⟩,he,h.1,h.2⟩
set_option maxHeartbeats 400000 in
theorem aN1 (n:Int) (w:World) (hg:ErrT w):Calls Tryz.prog 115 #[.iface 26 (.int .i64 n)] w fun e w'=>e=.returned (.int .i64 n)∧Below w.heap.size w w':=by
 have hg1:ErrT (w.alloc (.cells #[.int .i64 0] 26)):=hg.below ((Below.refl _ _).alloc lR7 _);go_enter Tryz.func115,Tryz.ntmps115;go_wp2_with fail;refine (kB1 n ⟨w.heap.size,0,none⟩ _ hg1 (by simp) (by simp)).mono ?_;rintro e w1 ⟨rfl,hc,hb⟩;go_wp2;go_ret;exact ⟨rfl,((Below.refl _ _).alloc lR7 _).trans hb⟩
set_option maxHeartbeats 400000 in
theorem oT1 (n:Int) (b o:Nat) (w:World) (hg:ErrT w) (hn:w.cell? ⟨b,o,none⟩=some (.int .i64 n)):Calls Tryz.prog 115 #[.iface 215 (.pointer (some ⟨b,o,none⟩))] w fun e w'=>e=.returned (.int .i64 n)∧Below w.heap.size w w':=by
 have hg1:ErrT (w.alloc (.cells #[.int .i64 0] 26)):=hg.below ((Below.refl _ _).alloc lR7 _);have hn1:Hid ((w.alloc (.cells #[.int .i64 0] 26)).cell? ⟨b,o,none⟩=some (.int .i64 n)):=(dB0 (a:=⟨b,o,none⟩) _ (bK0 (a:=⟨b,o,none⟩) hn)).trans hn;go_enter Tryz.func115,Tryz.ntmps115;go_wp2_with fail;refine (tJ1 n b o ⟨w.heap.size,0,none⟩ _ hg1 hn1.out (by simp) (by simp)).mono ?_;rintro e w1 ⟨rfl,hc,hb⟩;go_wp2;go_ret;exact ⟨rfl,((Below.refl _ _).alloc lR7 _).trans hb⟩
theorem yK0 (err:Value) (n k:Int) (w:World) (hg:ErrT w) (h:tW0 w err n k):Calls Tryz.prog 115 #[err] w fun e w'=>e=.returned (.int .i64 n)∧Below w.heap.size w w':=by
 rcases h with ⟨rfl,rfl,rfl⟩ | ⟨rfl,rfl⟩ | ⟨b,o,rfl,h1,h2⟩
 ·exact (kA1 w).mono fun _ _ ⟨he,hw⟩=>⟨he,by subst hw;exact Below.refl _ _⟩
 ·exact aN1 n w hg
 ·exact oT1 n b o w hg h1
end Go.Proofs.YtaelphbianmckaaGreatDoor
namespace Go.Proofs.YtaelphbianmckaaGreatDoor
open Go.RowKit
theorem rG1 {w:World} {rs:List (Int×Int)} {err:Value} (h:((tabE rs).2=-1∧err=.iface 26 (.int .i64 (tabE rs).1))∨∃b:Nat,err=.iface 215 (.pointer (some ⟨b,0,none⟩))∧w.cell? ⟨b,0,none⟩=some (.int .i64 (tabE rs).1)∧w.cell? ⟨b,1,none⟩=some (.int .i64 (tabE rs).2)):
  tW0 w err (tabE rs).1 (tabE rs).2:=by
 rcases h with ⟨h1,h2⟩ | ⟨b,h1,h2,h3⟩
 ·exact Or.inr (Or.inl ⟨h2,h1⟩)
 ·exact Or.inr (Or.inr ⟨b,0,h1,h2,h3⟩)
def oG0 (ti mo:Int):Bool:=decide (1≤ti)&& decide (ti≤1000000)&& (decide (0≤mo)&& decide (mo≤10))
def newE (rs:List (Int×Int)) (st dy p ti mo:Int):Int×Int:=if (tabE rs).1≠0 then tabE rs else if lJ0 st dy p=true∧oG0 ti mo=true then (0,-1) else (2,-1)
def eJ1 (w:World) (rs:List (Int×Int)) (st dy p ti mo:Int) (e:Ending) (w':World):Prop:=∃err,e=.returned (.tuple #[.pointer none,err])∧tW0 w' err (newE rs st dy p ti mo).1 (newE rs st dy p ti mo).2∧Below w.heap.size w w'
theorem kN0 {w w':World} {rs:List (Int×Int)} {st dy p ti mo:Int} {err:Value} (h:tW0 w' err (newE rs st dy p ti mo).1 (newE rs st dy p ti mo).2) (hb:Below w.heap.size w w'):eJ1 w rs st dy p ti mo (.returned (.tuple #[.pointer none,err])) w':=⟨err,rfl,h,hb⟩
set_option maxRecDepth 8000 in
set_option maxHeartbeats 4000000 in
theorem aO1 (a:Option Addr) (cap:Nat) (st dy p ti mo:Int) (w:World):
  Calls Tryz.prog 65 #[.agg #[.slice a 0 cap,.int .i64 st,.int .i64 dy,.int .i64 p,.int .i64 ti,.int .i64 mo]] w fun e w'=>eJ1 w [] st dy p ti mo e w':=by
 go_enter Tryz.func65,Tryz.ntmps65;go_upto_region 1 with fail;have hx:=heap_alloc_new w (.cells #[.slice a 0 cap,.int .i64 st,.int .i64 dy,.int .i64 p,.int .i64 ti,.int .i64 mo] 29);have hb:=bel1 w (.cells #[.slice a 0 cap,.int .i64 st,.int .i64 dy,.int .i64 p,.int .i64 ti,.int .i64 mo] 29);generalize w.alloc (.cells #[.slice a 0 cap,.int .i64 st,.int .i64 dy,.int .i64 p,.int .i64 ti,.int .i64 mo] 29)=w1 at hx hb ⊢;have c0:w1.cell? ⟨w.heap.size,0,none⟩=some (.slice a 0 cap):=aA0 (j:=0) hx rfl;have HB:Hid (Below w.heap.size w w1):=hb;clear hx hb;go_wp2_with fail;refine (dM1 a cap w1).mono ?_;rintro e w2 ⟨rfl,hw⟩;subst hw;go_wp2_with fail;go_ret2;exact kN0 (Or.inr (Or.inl ⟨rfl,rfl⟩)) HB.out
set_option maxRecDepth 8000 in
set_option maxHeartbeats 4000000 in
theorem kC1 (tb0 off cap:Nat) (rs:List (Int×Int)) (st dy p ti mo:Int) (w:World) (h:cI0 w tb0 off rs) (hwf:mD0 rs) (hne:0<rs.length) (hlen:rs.length≤60) (hno:(newE rs st dy p ti mo).1≠0):
  Calls Tryz.prog 65 #[.agg #[.slice (some ⟨tb0,off,none⟩) rs.length cap,.int .i64 st,.int .i64 dy,.int .i64 p,.int .i64 ti,.int .i64 mo]] w fun e w'=>eJ1 w rs st dy p ti mo e w':=by
 have HR:Hid (cI0 w tb0 off rs):=h;have HW:Hid (mD0 rs):=hwf;have HNO:Hid ((newE rs st dy p ti mo).1≠0):=hno;clear h hwf hno;go_enter Tryz.func65,Tryz.ntmps65;go_upto_region 1 with fail;have hx:=heap_alloc_new w (.cells #[.slice (some ⟨tb0,off,none⟩) rs.length cap,.int .i64 st,.int .i64 dy,.int .i64 p,.int .i64 ti,.int .i64 mo] 29);have hb:=bel1 w (.cells #[.slice (some ⟨tb0,off,none⟩) rs.length cap,.int .i64 st,.int .i64 dy,.int .i64 p,.int .i64 ti,.int .i64 mo] 29);generalize w.alloc (.cells #[.slice (some ⟨tb0,off,none⟩) rs.length cap,.int .i64 st,.int .i64 dy,.int .i64 p,.int .i64 ti,.int .i64 mo] 29)=w1 at hx hb ⊢;have c0:w1.cell? ⟨w.heap.size,0,none⟩=some (.slice (some ⟨tb0,off,none⟩) rs.length cap):=aA0 (j:=0) hx rfl;have HX:Hid _:=hx;have HB:Hid (Below w.heap.size w w1):=hb;clear hx hb;go_wp2_with fail;refine (dR1 tb0 off cap rs w1 (HR.out.below HB.out lR7) HW.out hne hlen).mono ?_;rintro e w2 ⟨t,err,rfl,hN,hb2⟩;have HB2:Hid (Below w.heap.size w w2):=aC0 HB.out hb2;rcases hN with ⟨ht,rfl,tb,rfl,cb,ct,ht1,ht2⟩ | ⟨h0,rfl,he⟩
 ·have hx2:=aD0 HX.out hb2 lR7;have c1:w2.cell? ⟨w.heap.size,1,none⟩=some (.int .i64 st):=aA0 (j:=1) hx2 rfl;have c2:w2.cell? ⟨w.heap.size,2,none⟩=some (.int .i64 dy):=aA0 (j:=2) hx2 rfl;have c3:w2.cell? ⟨w.heap.size,3,none⟩=some (.int .i64 p):=aA0 (j:=3) hx2 rfl;have HX2:Hid _:=hx2
  have HE:Hid (newE rs st dy p ti mo=if lJ0 st dy p=true∧oG0 ti mo=true then (0,-1) else (2,-1)):=by
   show _=_;unfold newE;rw [if_neg (by rw [ht];decide)]
  clear hb2 hx2 ht1 ht2 c0 ht;go_wp2_with fail;cases hok:lJ0 st dy p with
  | false=>
   have HE2:Hid (newE rs st dy p ti mo=(2,-1)):=by show _=_;rw [HE.out,if_neg (by rw [hok];rintro ⟨e,_⟩;cases e)]
   refine (jB1 st dy p w2 hok).mono ?_;rintro e w3 ⟨rfl,hb3⟩;have HB3:Hid (Below w.heap.size w w3):=aC0 HB2.out hb3;clear hb3 hok;go_wp2_with fail;go_ret2;exact kN0 (by rw [HE2.out];exact Or.inr (Or.inl ⟨rfl,rfl⟩)) HB3.out
  | true=>
   have HT:Hid (oG0 ti mo=false):=by
    show _=_;cases ht:oG0 ti mo with
    | false=>rfl
    | true=>exact absurd (by rw [HE.out,if_pos ⟨hok,ht⟩]) HNO.out
   have HE2:Hid (newE rs st dy p ti mo=(2,-1)):=by show _=_;rw [HE.out,if_neg (by rw [HT.out];rintro ⟨_,e⟩;cases e)]
   refine (yC0 st dy p w2 hok).mono ?_;rintro e w3 ⟨rfl,hb3,_⟩;have hx3:=aD0 HX2.out hb3 lR7;have HB3:Hid (Below w.heap.size w w3):=aC0 HB2.out hb3;have d4:w3.cell? ⟨w.heap.size,4,none⟩=some (.int .i64 ti):=aA0 (j:=4) hx3 rfl;have d5:w3.cell? ⟨w.heap.size,5,none⟩=some (.int .i64 mo):=aA0 (j:=5) hx3 rfl;clear hb3 hx3 c1 c2 c3 hok
   have hbad:ti<1∨1000000<ti∨mo<0∨10<mo:=by
    have h:=HT.out;unfold oG0 at h
    by_cases g1:ti<1
    ·exact Or.inl g1
    by_cases g2:1000000<ti
    ·exact Or.inr (Or.inl g2)
    by_cases g3:mo<0
    ·exact Or.inr (Or.inr (Or.inl g3))
    by_cases g4:10<mo
    ·exact Or.inr (Or.inr (Or.inr g4))
    rw [decide_eq_true (show (1:Int)≤ti by omega),decide_eq_true (show ti≤1000000 by omega),decide_eq_true (show (0:Int)≤mo by omega),decide_eq_true (show mo≤10 by omega)] at h;cases h
   by_cases g1:ti<1
   ·go_wp2_with fail;go_ret2;exact kN0 (by rw [HE2.out];exact Or.inr (Or.inl ⟨rfl,rfl⟩)) HB3.out
   by_cases g2:ti>1000000
   ·go_wp2_with fail;go_ret2;exact kN0 (by rw [HE2.out];exact Or.inr (Or.inl ⟨rfl,rfl⟩)) HB3.out
   by_cases g3:mo<0
   ·go_wp2_with fail;go_ret2;exact kN0 (by rw [HE2.out];exact Or.inr (Or.inl ⟨rfl,rfl⟩)) HB3.out
   have g4:mo>10:=by omega
   clear hbad;go_wp2_with fail;go_ret2;exact kN0 (by rw [HE2.out];exact Or.inr (Or.inl ⟨rfl,rfl⟩)) HB3.out
 ·have HE:Hid (newE rs st dy p ti mo=tabE rs):=by
   show _=_;unfold newE;rw [if_pos h0]
  have HER:Hid (tW0 w2 err (tabE rs).1 (tabE rs).2):=rG1 he
  have hnn:err≠.nilIface:=by
   rcases he with ⟨_,e⟩ | ⟨b,e,_⟩
   ·rw [e];intro h;cases h
   ·rw [e];intro h;cases h
  rcases he with ⟨_,rfl⟩ | ⟨b,rfl,_⟩
  ·clear hb2 h0 hnn;go_wp2_with fail;go_ret2;exact kN0 (by rw [HE.out];exact HER.out) HB2.out
  ·clear hb2 h0 hnn;go_wp2_with fail;go_ret2;exact kN0 (by rw [HE.out];exact HER.out) HB2.out
def in64 (z:Int):Prop:=-9223372036854775808≤z∧z≤9223372036854775807
def filI (f:Fil):Prop:=in64 f.buyer∧in64 f.seller∧in64 f.price∧in64 f.qty
def jG0 (o:Ord):Prop:=in64 o.id∧in64 o.kind∧in64 o.price∧in64 o.qty
def rowT (l:List Int):List UInt8:=Lib.join (l.map Lib.itoa) [32]
def filT (f:Fil):List UInt8:=rowT [f.buyer,f.seller,f.price,f.qty]
def ordT (o:Ord):List UInt8:=rowT [o.id,o.kind,o.price,o.qty]
def tX0 (t:List UInt8) (fs:List Fil):List UInt8:=Lib.join (t::fs.map filT) [44,32]
def tY0 (l:List Ord):List UInt8:=Lib.join (l.map ordT) [44,32]
def errT (n:Int):List UInt8:=[101,114,114,111,114,32]++Lib.itoa n
def phT (p:Int):List UInt8:=
 if p=1 then [112,114,101,111,112,101,110] else if p=2 then [111,112,101,110,105,110,103] else if p=3 then [116,114,97,100,105,110,103]
 else if p=4 then [118,111,108,97,116,105,108,105,116,121] else if p=5 then [99,108,111,115,105,110,103] else if p=6 then [104,97,108,116] else [101,110,100,101,100]
def rH1:List UInt8:=[97,117,99,116,105,111,110,32,98,97,110,100,32,98,97,110,100,115,32,98,117,121,32,99,97,110,99,101,108,32,99,108,101,97,114,32,104,97,108,116,32,104,101,108,112,32,111,112,101,110,32,111,114,100,101,114,115,32,112,97,114,107,101,100,32,112,104,97,115,101,32,113,117,111,116,101,32,114,101,102,115,32,115,101,108,108,32,115,116,97,114,116,32,116,97,98,108,101,32,116,105,99,107]
structure DsS where
 rs:List (Int×Int)
 st:Int
 dy:Int
 pr:Int
 ti:Int
 mo:Int
 mkt:Option Mkt
def DsS.zero:DsS:=⟨[],0,0,0,0,0,none⟩
def kO0:List (List UInt8×Int×Int):=
 [([116,97,98,108,101],-1,1),([98,97,110,100,115],3,1),([97,117,99,116,105,111,110],2,1),([115,116,97,114,116],0,1),
  ([98,117,121],4,2),([115,101,108,108],4,2),([99,97,110,99,101,108],1,2),([116,105,99,107],0,2),([104,97,108,116],0,2),([111,112,101,110],0,2),
  ([112,104,97,115,101],0,2),([113,117,111,116,101],0,2),([114,101,102,115],0,2),([111,114,100,101,114,115],1,2),([112,97,114,107,101,100],0,2),
  ([98,97,110,100],2,0),([99,108,101,97,114],0,0),([104,101,108,112],0,0)]
def tZ0 (w:List UInt8):Option Nat:=kO0.findIdx? (fun x=>x.1 == w)
def dZ0 (d:Nat):Int:=(kO0.getD d ([],0,0)).2.1
def gL0 (d:Nat):Int:=(kO0.getD d ([],0,0)).2.2
def gD0 (d:Nat):List UInt8:=(kO0.getD d ([],0,0)).1
def kP0 (b:Int) (n:Nat):Bool:=if b=-1 then decide ((n:Int) % 2=0) else decide ((n:Int)=b)
def mayD (t:Int) (H:DsS):Bool:=if t=1 then H.mkt.isNone else if t=2 then H.mkt.isSome else true
def numB (s:ByteArray):Option Int:=
 match Lib.parseIntB 64 s.data.toList with
 | .ok v=>if Lib.itoa v=s.data.toList then some v else none
 | _=>none
def eY0:List ByteArray→Option (List Int)
 | []=>some []
 | s::ws=>match numB s with
  | none=>none
  | some n=>match eY0 ws with
   | none=>none
   | some l=>some (n::l)
def dG0:List Int→List (Int×Int)
 | a::b::l=>(a,b)::dG0 l
 | _=>[]
def nI (l:List Int) (k:Nat):Int:=l.getD k 0
def ordI (side:Int) (l:List Int):Ord:=⟨nI l 0,side,nI l 1,nI l 2,nI l 3⟩
def orE (e:Int) (t:List UInt8):Int×List UInt8:=if e=0 then (0,t) else (e,[])
def dM0 (d:Nat) (l:List Int) (M:Mkt):(Int×List UInt8)×Mkt:=
 match d with
 | 4=>(orE (ordN M (ordI 1 l)) (tX0 [116,97,107,101,110] (ordM M (ordI 1 l)).1),(ordM M (ordI 1 l)).2)
 | 5=>(orE (ordN M (ordI 2 l)) (tX0 [116,97,107,101,110] (ordM M (ordI 2 l)).1),(ordM M (ordI 2 l)).2)
 | 6=>(orE (mL0 M (nI l 0)) (gD0 6),canM M (nI l 0))
 | 7=>(orE (rN0 M) (tX0 (rowT [(bO0 M).2.now]) (bO0 M).1),(bO0 M).2)
 | 8=>(orE (oC0 M) (gD0 8),hT0 M)
 | 9=>(orE (kK0 M) (gD0 9),eK0 M)
 | 10=>((0,phT M.ph),M)
 | 11=>((0,rowT [(dQ0 M).price,(dQ0 M).qty,(dQ0 M).sur]),M)
 | 12=>((0,rowT [M.an,M.la]),M)
 | 13=>(if nI l 0=1∨nI l 0=2 then (0,tY0 (aK0 (nI l 0) M.L)) else (1,[]),M)
 | _=>((0,tY0 M.P),M)
def aX0 (d:Nat) (l:List Int) (H:DsS):(Int×List UInt8)×DsS:=
 match d with
 | 0=>((0,gD0 0),{ H with rs:=dG0 l })
 | 1=>((0,gD0 1),{ H with st:=nI l 0,dy:=nI l 1,pr:=nI l 2 })
 | 2=>((0,gD0 2),{ H with ti:=nI l 0,mo:=nI l 1 })
 | 3=>if (newE H.rs H.st H.dy H.pr H.ti H.mo).1=0 then ((0,gD0 3),{ H with mkt:=some (newM H.rs H.st H.dy H.pr H.ti H.mo) }) else (((newE H.rs H.st H.dy H.pr H.ti H.mo).1,[]),H)
 | 15=>(orE (aH1 (nI l 0) (nI l 1)) (rowT [bandL (nI l 0) (nI l 1),bandH (nI l 0) (nI l 1)]),H)
 | 16=>((0,gD0 16),DsS.zero)
 | 17=>((0,rH1),H)
 | d=>match H.mkt with
  | none=>((6,[]),H)
  | some M=>((dM0 d l M).1,{ H with mkt:=some (dM0 d l M).2 })
def fY0 (s:ByteArray):List ByteArray:=Lib.goFieldsP (fun r=>r == 32) s
def dH0 (s:ByteArray) (H:DsS):(Int×List UInt8)×DsS:=
 match fY0 s with
 | []=>((0,[111,107]),H)
 | w::ws=>match tZ0 w.data.toList with
  | none=>((3,[]),H)
  | some d=>if kP0 (dZ0 d) ws.length=false then ((3,[]),H) else match eY0 ws with
   | none=>((3,[]),H)
   | some l=>if mayD (gL0 d) H=false then ((6,[]),H) else aX0 d l H
def ansT (r:Int×List UInt8):List UInt8:=if r.1=0 then r.2 else errT r.1
def fZ0:List ByteArray→DsS→List UInt8
 | [],_=>[]
 | s::ls,H=>ansT (dH0 s H).1++[10]++fZ0 ls (dH0 s H).2
def gV0:List ByteArray→DsS→DsS
 | [],H=>H
 | s::ls,H=>gV0 ls (dH0 s H).2
theorem iL0:∀(a b:List ByteArray) (H:DsS),fZ0 (a++b) H=fZ0 a H++fZ0 b (gV0 a H)
 | [],_,_=>rfl
 | s::a,b,H=>by
  show ansT (dH0 s H).1++[10]++fZ0 (a++b) _=ansT (dH0 s H).1++[10]++fZ0 a _++fZ0 b _;rw [iL0 a b];simp [gV0]
theorem mG0:∀(a b:List ByteArray) (H:DsS),gV0 (a++b) H=gV0 b (gV0 a H)
 | [],_,_=>rfl
 | _::a,b,_=>mG0 a b _
def fI0:List UInt8→List UInt8×List UInt8×Bool
 | []=>([],[],false)
 | c::s=>if c == 10 then ([],s,true) else (c::(fI0 s).1,(fI0 s).2.1,(fI0 s).2.2)
def bP0:List UInt8→List (List UInt8)
 | []=>[[]]
 | c::s=>if c == 10 then []::bP0 s else match bP0 s with
  | []=>[[c]]
  | x::xs=>(c::x)::xs
theorem qD0 (s:List UInt8):bP0 s≠[]:=by
 cases s with
 | nil=>simp [bP0]
 | cons c s=>
  unfold bP0;split
  ·simp
  ·split <;> simp
theorem oH0:∀s:List UInt8,bP0 s=(fI0 s).1::(if (fI0 s).2.2=true then bP0 (fI0 s).2.1 else [])
 | []=>rfl
 | c::s=>by
  have one:bP0 (c::s)=if c == 10 then []::bP0 s else match bP0 s with | []=>[[c]] | x::xs=>(c::x)::xs:=rfl
  have two:fI0 (c::s)=if c == 10 then ([],s,true) else (c::(fI0 s).1,(fI0 s).2.1,(fI0 s).2.2):=rfl
  rw [one,two]
  by_cases h:(c == 10)=true
  ·rw [if_pos h,if_pos h];rfl
  ·rw [if_neg h,if_neg h,oH0 s]
theorem oI0:∀a b:List UInt8,bP0 (a++10::b)=bP0 a++bP0 b
 | [],b=>rfl
 | c::a,b=>by
  have one:∀t,bP0 (c::t)=if c == 10 then []::bP0 t else match bP0 t with | []=>[[c]] | x::xs=>(c::x)::xs:=fun _=>rfl
  show bP0 (c::(a++10::b))=_;rw [one,one,oI0 a b]
  by_cases h:(c == 10)=true
  ·rw [if_pos h,if_pos h];rfl
  ·rw [if_neg h,if_neg h];cases e:bP0 a with
   | nil=>exact absurd e (qD0 a)
   | cons x xs=>rfl
theorem uA0:∀s:List UInt8,(fI0 s).1.length+(fI0 s).2.1.length+(if (fI0 s).2.2=true then 1 else 0)=s.length
 | []=>rfl
 | c::s=>by
  have:=uA0 s;unfold fI0
  by_cases h:(c == 10)=true
  ·rw [if_pos h];simp
  ·rw [if_neg h];simp only [List.length_cons];omega
theorem oJ0:∀s:List UInt8,(Lib.indexByte s 10=-1∧fI0 s=(s,[],false))∨∃i:Nat,Lib.indexByte s 10=i∧i<s.length∧fI0 s=(s.take i,s.drop (i+1),true)
 | []=>Or.inl ⟨rfl,rfl⟩
 | c::s=>by
  unfold fI0 Lib.indexByte
  by_cases h:(c == 10)=true
  ·right;rw [if_pos h,if_pos h];exact ⟨0,rfl,by simp,rfl⟩
  ·rw [if_neg h,if_neg h];rcases oJ0 s with ⟨h1,h2⟩ | ⟨i,h1,h2,h3⟩
   ·left;rw [h1,h2];exact ⟨rfl,rfl⟩
   ·right;refine ⟨i+1,?_,by simp;omega,?_⟩
    ·have hm:¬((i:Int) == -1)=true:=fun e=>by have:=beq_iff_eq.1 e;omega
     rw [h1,if_neg hm];rfl
    ·rw [h3];rfl
def lO0 (t:List UInt8):List UInt8:=Lib.trimSuffix t [10]
theorem aP1 (a:List UInt8) {b:List UInt8} (h:b≠[]):List.isSuffixOf [10] (a++b)=List.isSuffixOf [10] b:=by
 unfold List.isSuffixOf;rw [List.reverse_append];have hb:b.reverse≠[]:=by simpa using h
 cases e:b.reverse with
 | nil=>exact absurd e hb
 | cons x xs=>rfl
theorem yL0 (a:List UInt8) {b:List UInt8} (h:b≠[]):lO0 (a++b)=a++lO0 b:=by
 unfold lO0 Lib.trimSuffix Lib.hasSuffix;rw [aP1 a h];split
 ·have hb:0<b.length:=List.length_pos_iff.2 h;have e:(a++b).length - 1=a.length+(b.length - 1):=by rw [List.length_append];omega
  show (a++b).take ((a++b).length - 1)=a++b.take (b.length - 1);rw [e,List.take_length_add_append]
 ·rfl
theorem kD1 (a:List UInt8):lO0 (a++[10])=a:=by
 rw [yL0 a (by simp)];have:lO0 [10]=[]:=by decide
 rw [this,List.append_nil]
theorem yM0 (t:List UInt8):(lO0 t).length≤t.length:=by
 unfold lO0 Lib.trimSuffix;split
 ·rw [List.length_take];omega
 ·exact lR7
def yN0 (t:List UInt8):List (List UInt8):=bP0 (lO0 t)
def baOf (l:List UInt8):ByteArray:=⟨l.toArray⟩
def oK0 (t:List UInt8):List UInt8:=if 20000<t.length then errT 4++[10] else fZ0 ((yN0 t).map baOf) DsS.zero
theorem wI0 (a b:List UInt8) (h:(a++[10]++b).length≤20000):∃r,oK0 (a++[10]++b)=oK0 (a++[10])++r:=by
 have h1:¬20000<(a++[10]++b).length:=by omega
 have h2:¬20000<(a++[10]).length:=by simp at h ⊢;omega
 unfold oK0;rw [if_neg h1,if_neg h2]
 by_cases hb:b=[]
 ·subst hb;exact ⟨[],by simp⟩
 ·unfold yN0;rw [kD1,yL0 (a++[10]) hb,List.append_assoc];show ∃r,fZ0 ((bP0 (a++10::lO0 b)).map baOf) _=_;rw [oI0,List.map_append,iL0];exact ⟨_,rfl⟩
end Go.Proofs.YtaelphbianmckaaGreatDoor
namespace Go.Proofs.YtaelphbianmckaaGreatDoor
open Go.RowKit Go.Shelf
def eZ0 (w:World):Prop:=∃t f,w.heap[5]? = some (.cells (Lib.pow10Tab.map fun z=>Value.int .u64 z).toArray t f)
def ErrV (w:World) (g:Nat):Prop:=∃ev,w.cell? ⟨g,0,none⟩=some ev∧(ev=.nilIface∨∃te pe,ev=.iface te pe)
structure DsVars (w:World):Prop where
 et:ErrT w
 tab:eZ0 w
 syn:ErrV w 3
 ran:ErrV w 4
section
variable {w w':World} {B:Nat}
theorem DsVars.below (h:DsVars w) (hb:Below B w w') (hB:12≤B):DsVars w':=by
 obtain ⟨h1,⟨t,f,h2⟩,⟨e3,h3,k3⟩,⟨e4,h4,k4⟩⟩:=h;refine ⟨?_,⟨t,f,(hb.block _ (by omega)).trans h2⟩,⟨e3,(hb.cell (p:=⟨3,0,none⟩) (show 3<B by omega)).trans h3,k3⟩,⟨e4,(hb.cell (p:=⟨4,0,none⟩) (show 4<B by omega)).trans h4,k4⟩⟩;unfold ErrT at h1 ⊢;exact (hb.cell (p:=⟨6,0,none⟩) (show 6<B by omega)).trans h1
theorem eZ0.is (h:eZ0 w) {name:String} (hn:Tryz.prog.globalNamed name=some 5):Lib.TabIs Tryz.prog w name .u64 Lib.pow10Tab:=by
 obtain ⟨t,f,h⟩:=h;unfold Lib.TabIs World.var?;rw [hn];simp [h]
end
theorem eK1 (w:World) (k:Nat) (os:Array Obj):Below w.heap.size w (Go.Sort.grow (w.drewN k) os):=
 ⟨rfl,rfl,rfl,by show w.heap.size≤(w.heap++os).size;rw [Array.size_append];omega,fun j hj=>by
  show (w.heap++os)[j]? = w.heap[j]?;rw [Array.getElem?_append_left hj]⟩
theorem kE1 (w:World) (e:TypeId) (s:ByteArray):Below w.heap.size w (Lib.bytesWorld w e s):=
 ⟨rfl,rfl,rfl,by rw [Lib.bytesWorld_size];omega,fun j hj=>Lib.bytesWorld_at_old w e s j hj⟩
theorem mN1 (n:Int) (w:World) (h0:-9223372036854775808≤n) (h1:n≤9223372036854775807) (ht:eZ0 w):
  Calls Tryz.prog 18 #[.int .i64 n] w fun e w'=>e=.returned (.string (baOf (Lib.itoa n)))∧Below w.heap.size w w':=by
 refine (Any.strconv_Itoa vF0 n h0 h1 w (ht.is (by kernel_rfl))).mono ?_;rintro e w' ⟨rfl,k,os,rfl⟩;exact ⟨rfl,eK1 w k os⟩
theorem kF1 (n:Int) (w:World) (h0:-9223372036854775808≤n) (h1:n≤9223372036854775807) (ht:eZ0 w):
  Calls Tryz.prog 49 #[.int .i64 n,.int .i64 10] w fun e w'=>e=.returned (.string (baOf (Lib.itoa n)))∧Below w.heap.size w w':=by
 refine (Any.strconv_FormatInt_10 vE0 n h0 h1 w (ht.is (by kernel_rfl))).mono ?_;rintro e w' ⟨rfl,k,os,rfl⟩;exact ⟨rfl,eK1 w k os⟩
def rI1 (s:ByteArray) (e:Ending):Prop:=
 (∃v,Lib.parseIntB 64 s.data.toList=.ok v∧e=.returned (.tuple #[.int .i64 v,.nilIface]))∨
 ((∀v,Lib.parseIntB 64 s.data.toList≠.ok v)∧∃z t p,e=.returned (.tuple #[.int .i64 z,.iface t p]))
theorem oU1 (s:ByteArray) (w:World) (hs:s.size≤1000000) (h3:ErrV w 3) (h4:ErrV w 4):
  Calls Tryz.prog 48 #[.string s,.int .i64 10,.int .i64 64] w fun e w'=>rI1 s e∧Below w.heap.size w w':=by
 cases hp:Lib.parseIntB 64 s.data.toList with
 | ok v=>
  refine (Any.strconv_ParseInt_10_at64_ok jJ0 s (by omega) v hp w).mono ?_;rintro e w' ⟨rfl,rfl | ⟨t,rfl⟩⟩
  ·exact ⟨Or.inl ⟨v,hp,rfl⟩,Below.refl _ _⟩
  ·exact ⟨Or.inl ⟨v,hp,rfl⟩,kE1 w _ _⟩
 | «syntax»=>
  obtain ⟨ev,c,k⟩:=h3;refine (Any.strconv_ParseInt_10_at64_syntax jJ0 s (by omega) hp ev w c k).mono ?_;rintro e w' ⟨N,rfl,_,_,hb⟩;exact ⟨Or.inr ⟨fun v e=>(by rw [hp] at e;cases e),_,_,_,rfl⟩,hb⟩
 | range=>
  obtain ⟨ev,c,k⟩:=h4;refine (Any.strconv_ParseInt_10_at64_range jJ0 s (by omega) hp ev w c k).mono ?_;rintro e w' ⟨N,rfl,_,_,hb⟩;exact ⟨Or.inr ⟨fun v e=>(by rw [hp] at e;cases e),_,_,_,rfl⟩,hb⟩
def eL1 (w:World) (bk o:Nat) (xs:List (List UInt8)):Prop:=∀(j:Nat) x,xs[j]? = some x→w.cell? ⟨bk,o+j,none⟩=some (.string (baOf x))
theorem eM1 (bk o c:Nat) (xs:List (List UInt8)) (sep:List UInt8) (w:World) (h:eL1 w bk o xs) (hne:0<xs.length) (hN:xs.length≤100000) (hc:xs.length≤c) (hlen:(Lib.join xs sep).length≤100000000):
  Calls Tryz.prog 63 #[.slice (some ⟨bk,o,none⟩) xs.length c,.string (baOf sep)] w fun e w'=>e=.returned (.string (baOf (Lib.join xs sep)))∧Below w.heap.size w w':=by
 have e1:(xs.map baOf).length=xs.length:=by simp
 have e2:(xs.map baOf).map (·.data.toList)=xs:=by
  rw [List.map_map];exact (List.map_congr_left (fun x _=>rfl)).trans (List.map_id xs)
 obtain ⟨x,hx⟩:∃x,xs[0]? = some x:=⟨xs[0],List.getElem?_eq_getElem hne⟩;have hbk:bk<w.heap.size:=World.block_lt_of_cell? w ⟨bk,o+0,none⟩ (h 0 x hx)
 have:=Any.strings_Join pL0 fJ0 bk o c (xs.map baOf) (baOf sep) w (fun j x hj=>by
  rw [List.getElem?_map] at hj;obtain ⟨y,hy,rfl⟩:=Option.map_eq_some_iff.1 hj;exact h j y hy) hbk (by rw [e1];omega) (by rw [e1];exact hc) (by rw [e2];show (Lib.join xs sep).length≤_;omega)
 rw [e1,e2] at this;exact this
theorem wJ0 (a:Option Addr) (c:Nat) (sep:ByteArray) (w:World):
  Calls Tryz.prog 63 #[.slice a 0 c,.string sep] w fun e w'=>e=.returned (.string (baOf []))∧Below w.heap.size w w':=by
 refine (Any.strings_Join_none pL0 fJ0 a c sep w).mono ?_;rintro e w' ⟨rfl,rfl⟩;exact ⟨rfl,Below.refl _ _⟩
end Go.Proofs.YtaelphbianmckaaGreatDoor
namespace Go.Proofs.YtaelphbianmckaaGreatDoor
open Go.RowKit
theorem Tryz.infoStr:(Tryz.prog.info? 9).map (fun i=>(i.zero,i.size,i.bytes))=some (some (.string ⟨#[]⟩),1,16):=by kernel_rfl
theorem eZ0.below {w w':World} (h:eZ0 w) (hb:Below w.heap.size w w'):eZ0 w':=by
 obtain ⟨t,f,h⟩:=h;exact ⟨t,f,(hb.block _ (lt_of_block h)).trans h⟩
theorem dI0 {m:Nat}:∀(xs:List (List UInt8)) (sep:List UInt8),(∀x∈xs,x.length≤m)→(Lib.join xs sep).length≤xs.length*(m+sep.length)
 | [],_,_=>Nat.zero_le _
 | [x],sep,h=>by
  rw [Lib.join_one];have:=h x (List.mem_cons_self ..);simp;omega
 | x::y::r,sep,h=>by
  have e:Lib.join (x::y::r) sep=x++sep++Lib.join (y::r) sep:=by simp [Lib.join,List.intercalate]
  have h1:=h x (List.mem_cons_self ..);have h2:=dI0 (y::r) sep (fun z hz=>h z (List.mem_cons_of_mem _ hz));rw [e,List.length_append,List.length_append];simp only [List.length_cons] at h2 ⊢;have:(r.length+1+1)*(m+sep.length)=(r.length+1)*(m+sep.length)+(m+sep.length):=by rw [Nat.add_mul (r.length+1) 1];omega
  omega
section
variable {α:Type} {f:α→List UInt8} {l:List α} {k:Nat}
def wrdV (f:α→List UInt8) (l:List α) (k:Nat):List Value:=(l.take k).map (fun z=>Value.string (baOf (f z)))++List.replicate (l.length - k) (.string ⟨#[]⟩)
theorem yO0 (f:α→List UInt8) (l:List α):wrdV f l 0=List.replicate l.length (.string ⟨#[]⟩):=by simp [wrdV]
theorem oV1 (h:k≤l.length):(wrdV f l k).length=l.length:=by simp [wrdV];omega
theorem eN1 {z:α} (hz:l[k]? = some z):(wrdV f l k).set k (.string (baOf (f z)))=wrdV f l (k+1):=by
 obtain ⟨hk,rfl⟩:=List.getElem?_eq_some_iff.1 hz;unfold wrdV;rw [List.take_succ_eq_append_getElem hk,List.map_append,show l.length - k=(l.length - (k+1))+1 by omega,List.replicate_succ,List.set_append];rw [if_neg (by simp;omega)];simp only [List.length_map,List.length_take,show k - min k l.length=0 by omega,List.set_cons_zero,List.map_cons,List.map_nil,List.append_assoc,List.cons_append,List.nil_append]
theorem mO1 (h:k≤l.length) {j:Nat} (hj:j<l.length):∃v,(wrdV f l k)[j]? = some v∧v.oneCell'=true:=by
 have hl:=oV1 (f:=f) h;refine ⟨(wrdV f l k)[j]'(by omega),List.getElem?_eq_getElem (by omega),?_⟩;have hm:=List.getElem_mem (l:=wrdV f l k) (n:=j) (by omega);generalize (wrdV f l k)[j]'(by omega)=v at hm;unfold wrdV at hm;rcases List.mem_append.1 hm with hm | hm
 ·obtain ⟨z,_,rfl⟩:=List.mem_map.1 hm;rfl
 ·rw [List.eq_of_mem_replicate hm];rfl
theorem yP0 {w:World} {base g cap:Nat} (h:w.ownsRow base 9 1 (.slice (some ⟨g,0,none⟩) l.length cap) l.length (wrdV f l l.length)):eL1 w g 0 (l.map f):=fun j x hj=>by
 have hjl:j<l.length:=by have:=(List.getElem?_eq_some_iff.1 hj).1;simpa using this
 have:=h.cellAt j (by omega);rw [Nat.zero_add,this];unfold wrdV;rw [List.take_length,Nat.sub_self,List.replicate_zero,List.append_nil,List.getElem?_map];rw [List.getElem?_map] at hj;obtain ⟨y,hy,rfl⟩:=Option.map_eq_some_iff.1 hj;rw [hy];rfl
end
set_option maxRecDepth 8000 in
set_option maxHeartbeats 2000000 in
theorem aQ1 (b o cap:Nat) (l:List Int) (w:World) (hl:∀j z,l[j]? = some z→w.cell? ⟨b,o+j,none⟩=some (.int .i64 z)) (hw:∀z∈l,-9223372036854775808≤z∧z≤9223372036854775807) (h0:0<l.length) (h9:l.length≤10) (ht:eZ0 w):
  Calls Tryz.prog 71 #[.slice (some ⟨b,o,none⟩) l.length cap] w fun e w'=>e=.returned (.string (baOf (rowT l)))∧Below w.heap.size w w':=by
 obtain ⟨i0,hi,hz0,hz1,hz2⟩:=info_parts Tryz.infoStr;have HL:Hid (∀j z,l[j]? = some z→w.cell? ⟨b,o+j,none⟩=some (.int .i64 z)):=hl;have HW:Hid (∀z∈l,-9223372036854775808≤z∧z≤9223372036854775807):=hw;have HT:Hid (eZ0 w):=ht;clear hl hw ht;go_enter Tryz.func71,Tryz.ntmps71;go_wp2_with (at_make;refine wpList_make_full _ rfl _ _ 49 rfl w.heap.size 9 i0 (.string ⟨#[]⟩) 1 Tryz.underlying49 hi hz0 hz1 _ _ _ _ l.length rfl rfl (by go_num) (by go_num) (by rw [hz2];omega) (by unfold maxLen;omega) lR7 ?_;intro wt hownt hgt);have hbt:Below w.heap.size w wt:=(Below.refl _ _).grown hgt lR7 (fun _ hq=>by cases hq);rw [show (Value.string ⟨#[]⟩:Value).cells=#[.string ⟨#[]⟩] from rfl,Nat.mul_one,toList_madeCells_one,←yO0 Lib.itoa l] at hownt;have HO:Hid _:=hownt;have HB:Hid (Below w.heap.size w wt):=hbt;clear hownt hbt hgt hi hz0 hz1 hz2;go_wp2_with fail
 go_loopw [4,5,11] (fun _ _ u wr=>∃k:Nat,k≤l.length∧u=.int .i64 k∧wr.ownsRow w.heap.size 9 1 (.slice (some ⟨w.heap.size,0,none⟩) l.length l.length) l.length (wrdV Lib.itoa l k)∧Below w.heap.size w wr)
  (fun _ _ u _=>l.length - (intOf u).toNat)
 case atStart=>exact ⟨0,Nat.zero_le _,rfl,HO.out,HB.out⟩
 case round=>
  obtain ⟨k,hk,rfl,hrow,hb⟩:=hrel;have HB1:Hid (Below w.heap.size w wr):=hb;have HR1:Hid _:=hrow;clear hrow hb
  by_cases hlt:k<l.length
  ·obtain ⟨z,hz⟩:∃z,l[k]? = some z:=⟨l[k],List.getElem?_eq_getElem hlt⟩;have HZ:Hid (l[k]? = some z):=hz;have c1:wr.cell? ⟨b,o+k,none⟩=some (.int .i64 z):=(HB1.out.cell (p:=⟨b,o+k,none⟩) (World.block_lt_of_cell? w _ (HL.out k z hz))).trans (HL.out k z hz);have hbz:=HW.out z (List.mem_of_getElem? hz);clear hz;go_wp2_with fail;refine (mN1 z wr hbz.1 hbz.2 (HT.out.below HB1.out)).mono ?_;rintro e w2 ⟨rfl,hb2⟩;have HR2:Hid (w2.ownsRow w.heap.size 9 1 (.slice (some ⟨w.heap.size,0,none⟩) l.length l.length) l.length (wrdV Lib.itoa l k)):=aS0 HR1.out hb2 lR7;have HB2:Hid (Below w.heap.size w w2):=aC0 HB1.out hb2;obtain ⟨v,hv,_⟩:=mO1 (f:=Lib.itoa) hk hlt;have c2:w2.cell? ⟨w.heap.size,k,none⟩=some v:=by rw [HR2.out.cellAt k (by omega)];exact hv
   have f2:=HR2.out.frozenAt k;have HS:Hid _:=(HR2.out.stored k (.string (baOf (Lib.itoa z)))).1;have HB3:Hid (Below w.heap.size w (w2.setCell ⟨w.heap.size,k,none⟩ (.string (baOf (Lib.itoa z))))):=HB2.out.setCell (p:=⟨w.heap.size,k,none⟩) lR7 _;clear hb2 c1 hv;go_wp2_with fail;go_roundw
   case rel=>exact ⟨k+1,hlt,by go_num,by rw [←eN1 HZ.out];exact HS.out,HB3.out⟩
   case measure=>first | (simp [intOf];omega) | (show l.length - (k+1)<l.length - k;omega) | omega
  ·obtain rfl:k=l.length:=by omega
   have HST:=yP0 HR1.out
   have hjl:(Lib.join (l.map Lib.itoa) [32]).length≤100000000:=by
    have:=dI0 (m:=21) (l.map Lib.itoa) [32] (fun x hx=>by
     obtain ⟨z,hz,rfl⟩:=List.mem_map.1 hx;exact Lib.itoa_length_le z (HW.out z hz).1 (HW.out z hz).2)
    simp at this;omega
   clear hlt;go_wp2_with fail;have hj:=eM1 w.heap.size 0 l.length (l.map Lib.itoa) [32] wr HST (by simpa using h0) (by simp;omega) (by simp) hjl;rw [List.length_map] at hj;refine hj.mono ?_;rintro e w3 ⟨rfl,hb3⟩;have HB3:Hid (Below w.heap.size w w3):=aC0 HB1.out hb3;clear hb3 HST hj;go_wp2_with fail;go_ret;exact ⟨rfl,HB3.out⟩
end Go.Proofs.YtaelphbianmckaaGreatDoor
