/-
  Proved: whatever the config and the steps are, the law EnginePlays returns true and leaves its arguments as they were (whatever comes, and whenever, who trades with whom, at which price, and in which phase, is as chapter 9 of the document says). Condition of the row: the package variable errors.errorType reads as the program's text lays it; the card ties it to the program's own initialisers (the translator's report, over a pruned copy of the project).
-/
import Derived.Test.YtjdkagafdnchhaaGreatDoorPA
import Derived.Test.YtjdkagafdnchhaaGreatDoorPZB
import Derived.Test.YtjdkagafdnchhaaGreatDoorPZC
import Derived.Test.YtjdkagafdnchhaaGreatDoorCards
import Derived.Test.YtjdkagafdnchhaaGreatDoorTie
import Derived.ProofKit
import Derived.OpenShut
import Derived.ChangeVars
import Derived.Deep.Fields
import Derived.Deep.DeepHandedRow
import Derived.SevenTiedAt
namespace Go.Proofs.YtjdkagafdnchhaaGreatDoor.enginePlays
open Go.ChangeShapes Go.WideShapes Go.ChangeAt Go.RowKit Go.Deep
set_option maxRecDepth 8000 in
set_option maxHeartbeats 1000000 in
theorem long (ta:Option Addr) (m tc:Nat) (st dy pr ti mo:Int) (la:Option Addr) (n cap:Nat) (w:World) (h:60<m∨150<n):
  Calls Tryz.prog 3 #[.agg #[.slice ta m tc,.int .i64 st,.int .i64 dy,.int .i64 pr,.int .i64 ti,.int .i64 mo],.slice la n cap] w fun e w'=>e=.returned (.bool true)∧Below w.heap.size w w':=by
 by_cases hn:60<m
 ·have k1:decide ((m:Int)>60)=true:=decide_eq_true (by omega);go_enter Tryz.func3,Tryz.ntmps3;go_wp2_with fail;go_ret;exact ⟨rfl,(Below.refl _ _).alloc lR7 _⟩
 ·have k1:decide ((m:Int)>60)=false:=decide_eq_false (by omega);have k2:decide ((n:Int)>150)=true:=decide_eq_true (by omega);go_enter Tryz.func3,Tryz.ntmps3;go_wp2_with fail;go_ret;exact ⟨rfl,(Below.refl _ _).alloc lR7 _⟩
theorem walk (ta:Option Addr) (m tc:Nat) (st dy pr ti mo:Int) (la:Option Addr) (n cap:Nat) (w:World)
  (ht:m=0∨∃(b off:Nat) (rs:List (Int×Int)),ta=some ⟨b,off,none⟩∧rs.length=m∧bK0 w b off rs∧hU0 rs)
  (hl:n=0∨∃(b off:Nat) (X:Nat→Nat→Int),la=some ⟨b,off,none⟩∧∀i,i<n→∀j,j<6→w.cell? ⟨b,off+i*6+j,none⟩=some (.int .i64 (X i j))∧(Lit.int .i64 (X i j)).wf=true) (hg:ErrT w):
  Calls Tryz.prog 3 #[.agg #[.slice ta m tc,.int .i64 st,.int .i64 dy,.int .i64 pr,.int .i64 ti,.int .i64 mo],.slice la n cap] w fun e w'=>e=.returned (.bool true)∧Below w.heap.size w w':=by
 by_cases hlong:60<m∨150<n
 ·exact long ta m tc st dy pr ti mo la n cap w hlong
 have hX:∃X,iK1 w la n X:=by
  rcases hl with rfl | ⟨b,off,X,e,hX⟩
  ·exact ⟨fun _ _=>0,fun i hi=>by omega⟩
  ·exact ⟨X,fun i hi=>⟨b,off,e,fun j hj=>hX i hi j hj⟩⟩
 obtain ⟨X,hX⟩:=hX;rcases ht with rfl | ⟨b,off,rs,rfl,rfl,hr,hw⟩
 ·exact rK0 ta tc st dy pr ti mo la n cap w (by omega) hg
 by_cases h0:rs.length=0
 ·rw [h0];exact rK0 _ tc st dy pr ti mo la n cap w (by omega) hg
 by_cases hz:(newE rs st dy pr ti mo).1=0
 ·exact mJ1 b off tc rs st dy pr ti mo la n cap X w hr hw (by omega) (by omega) hz (by omega) hX hg
 ·exact iL1 b off tc rs st dy pr ti mo la n cap w hr hw (by omega) (by omega) hz (by omega) hg
theorem Tryz.cellsCfg:Tryz.prog.cellsOf 24=6:=by kernel_rfl
theorem laidOut:laidOutB Tryz.prog=true:=by kernel_rfl
theorem laid_met (os:Os):laidMetH Tryz.prog Rows.enginePlaysRow.laid ((tF0 (World.holding Tryz.prog os ⟨#[],#[],[]⟩)).forCall (fun _ _=>0) ⟨#[],#[.agg #[.slice none 0 0,.int .i64 0,.int .i64 0,.int .i64 0,.int .i64 0,.int .i64 0],.slice none 0 0],[]⟩).memory:=
 laidMetH_of_parts (laidMet_nil _ _) (by kernel_rfl)
theorem reads (os:Os) {H:Type} (enc:TypeId×Value→H):∃places,DataW.whole enc Tryz.prog ((tF0 (World.holding Tryz.prog os ⟨#[],#[],[]⟩)).forCall (fun _ _=>0) ⟨#[],#[.agg #[.slice none 0 0,.int .i64 0,.int .i64 0,.int .i64 0,.int .i64 0,.int .i64 0],.slice none 0 0],[]⟩).memory Tryz.f3.params.toList Rows.enginePlaysSpec.vars false #[Value.agg #[.slice none 0 0,.int .i64 0,.int .i64 0,.int .i64 0,.int .i64 0,.int .i64 0],Value.slice none 0 0].toList 8=some ([.agg [.nil,.lit (.int .i64 0),.lit (.int .i64 0),.lit (.int .i64 0),.lit (.int .i64 0),.lit (.int .i64 0)],.nil],[],places):=
 ⟨[],by kernel_rfl⟩
set_option maxRecDepth 100000 in
theorem contract (H:Type) (enc:TypeId×Value→H) (W:World) (base:Nat) (args:Array Value) (ds gs:List (DataW H)) (before:List MemPlace)
  (hval:∀(j:Nat) t v,Tryz.f3.params[j]? = some t→args[j]? = some v→Value.okWide Tryz.prog W .any base t v)
  (hW:DataW.Whole enc Tryz.prog Tryz.f3.params.toList Rows.enginePlaysSpec.vars false W args.toList ds gs before) (hL:laidMetH Tryz.prog Rows.enginePlaysRow.laid W):
  Calls Tryz.prog 3 args W fun e W'=>∃v,e=.returned v∧Rows.enginePlaysSpec.post enc Tryz.prog Tryz.f3 false true false false W args v W':=by
 have hW':=hW;obtain ⟨p,q,hA0,hV,rfl,hfz,hnd⟩:=hW;have hA:DataW.TrodAll enc Tryz.prog W 0 (fun _=>true) true Tryz.f3.params.toList args.toList ds p:=hA0;rw [Tryz.params3] at hA hval;obtain ⟨v0,vs0,d0,ds0,p0,q0,hargs,rfl,rfl,h0,r0⟩:=trodAll_cons hA;obtain ⟨v1,vs1,d1,ds1,p1,q1,rfl,rfl,rfl,h1,r1⟩:=trodAll_cons r0;obtain ⟨rfl,rfl,rfl⟩:=trodAll_nil r1;obtain rfl:args=#[v0,v1]:=by cases args;simp_all
 obtain ⟨rfl,rfl⟩:=trodVars_none hV;obtain ⟨cs,rfl,hcs⟩:=okWide_struct Tryz.underlying24 (hval 0 24 v0 rfl rfl);rw [Tryz.cellsCfg] at hcs;obtain ⟨la,n,cap,rfl⟩:=okWide_slice Tryz.underlying25 (hval 1 25 v1 rfl rfl);obtain ⟨ta,m,tc,st,dy,pr,ti,mo,rfl,dr,pp,hrow⟩:=yM0 hcs h0;clear hA0;simp only [List.append_nil] at hW';have hlt:∀x∈p0,x.block<W.heap.size:=fun x hx=>hW'.lt x (List.mem_append_left _ hx)
 have hlt1:∀x∈p1,x.block<W.heap.size:=fun x hx=>hW'.lt x (List.mem_append_right _ (by simpa using hx))
 refine (walk ta m tc st dy pr ti mo la n cap W (iM1 hrow) (iN1 h1) (wB0 hL)).mono fun e W' ⟨he,hb⟩=>?_
 subst he;refine ⟨_,rfl,_,_,_,[],p0++(p1++[]),[],hW',?_,?_,?_,hb.frame _,fun h=>by cases h⟩
 ·exact trodAll_cons_mk (shut_bool Tryz.underlying4 _) trodAll_mk0
 ·exact trodAll_cons_mk (Below.trod laidOut (by kernel_rfl) (of_decide_eq_true (by kernel_rfl)) h0 hb hlt) (trodAll_cons_mk (Below.trod laidOut (by kernel_rfl) (of_decide_eq_true (by kernel_rfl)) h1 hb hlt1) trodAll_mk0)
 ·rfl
set_option maxRecDepth 100000 in
theorem lifted (os:Os) (started:os.Started) (H:Type) (enc:TypeId×Value→H) (F:Stop.Interp):
  ReturnsInHanded {} Tryz.checked os 3 .any ((OpenSpec.ofChange Rows.enginePlaysSpec).preRow enc Tryz.prog Tryz.f3 Rows.enginePlaysRow.domain false Rows.enginePlaysRow.laid) (((OpenSpec.ofChange Rows.enginePlaysSpec).at F).post enc Tryz.prog Tryz.f3 false true false false):=by
 obtain ⟨places,hx⟩:=reads os enc
 refine returnsInHanded_of_row (C:=Tryz.checked) (s:=OpenSpec.ofChange Rows.enginePlaysSpec) Tryz.own started (by kernel_rfl) Tryz.func3
  (witness_row_at (enc:=enc) (C:=Tryz.checked) false (tF0 (World.holding Tryz.prog os ⟨#[],#[],[]⟩)) #[.agg #[.slice none 0 0,.int .i64 0,.int .i64 0,.int .i64 0,.int .i64 0,.int .i64 0],.slice none 0 0] rfl (by kernel_rfl) (by kernel_rfl) (by kernel_rfl)
   (OpenSpec.preRow_of_cond 8 hx (by kernel_rfl) (fun k hk=>by cases hk) (by kernel_rfl) (laid_met os))) ?_
 intro W base args ds gs before hval hW _ _ _ hL _ _;exact contract H enc W base args ds gs before hval hW hL
theorem said:Rows.EnginePlaysSaid:=
 OpenClaim.holds_of_cond 3 Tryz.f3 rfl rfl rfl rfl rfl rfl rfl ⟨rfl,rfl,rfl,rfl,rfl⟩ rfl rfl rfl rfl rfl (by kernel_rfl) Tryz.func3 (by kernel_rfl)
  (of_decide_eq_true (by kernel_rfl)) (by unfold Func.isWrapper;first | (rw [if_pos (by decide +kernel)];kernel_rfl) | (rw [if_neg (by decide +kernel)];exact ⟨rfl,rfl⟩))
  (fun os started H enc _ F=>by rw [OpenClaim.pre_eq_preRow];exact lifted os started H enc F)
theorem plain (f:FuncId) (fn:Func) (hf:Tryz.pinned.checked.prog.funcNamed Rows.enginePlaysRow.func=some f) (hfn:Tryz.pinned.checked.prog.funcs[f]? = some fn):
  true=Tryz.pinned.checked.prog.looks []∧∀(j:Nat) t,fn.params[j]? = some t→Tryz.pinned.checked.prog.wantsStandIn t=false:=by
 obtain rfl:f=3:=Option.some.inj ((show Tryz.prog.funcNamed Rows.enginePlaysRow.func=some 3 by kernel_rfl).symm.trans hf) |>.symm;obtain rfl:fn=Tryz.f3:=(Option.some.inj (Tryz.func3.symm.trans hfn)).symm;refine ⟨by kernel_rfl,fun j t ht=>?_⟩;rw [Tryz.params3] at ht;have hm:t=24∨t=25:=by simpa using Array.mem_of_getElem? ht
 rcases hm with rfl | rfl
 ·exact (show Tryz.prog.wantsStandIn 24=false by kernel_rfl)
 ·exact (show Tryz.prog.wantsStandIn 25=false by kernel_rfl)
end Go.Proofs.YtjdkagafdnchhaaGreatDoor.enginePlays
namespace Go.Proofs.YtjdkagafdnchhaaGreatDoor
theorem enginePlays_card_holds:Rows.EnginePlaysCardSaid:=
 Claim7.holds_tied_plain_at .later [] _ _ _ _ enginePlays.said (fun _ h=>by cases h) (by kernel_rfl) (fun _ h=>by cases h) enginePlays_row_tie rfl ⟨rfl,rfl⟩ (by kernel_rfl) rfl enginePlays.plain (by kernel_rfl)
#print axioms enginePlays_card_holds
end Go.Proofs.YtjdkagafdnchhaaGreatDoor
