/- DeskPieces: a part of the proof, packed (the readable form: the templates). -/
import Derived.Test.YtaelphbianmckaaGreatDoorQA
import Derived.Test.YtaelphbianmckaaGreatDoorQU
import Derived.Test.YtaelphbianmckaaGreatDoorCards
import Derived.Test.YtaelphbianmckaaGreatDoorTie
import Derived.ProofKit
import Derived.OpenShut
import Derived.ChangeVars
import Derived.ChangeMaps5
import Derived.SizedLaws
import Derived.Deep.Fields
import Derived.Deep.DeepHandedRow
import Derived.SevenTiedAt
import Derived.Test.YtaelphbianmckaaGreatDoorRows
import Derived.JoinedCond
import Derived.KernelRfl
namespace Go.Proofs.YtaelphbianmckaaGreatDoor.deskPieces
open Go.ChangeShapes Go.WideShapes Go.ChangeAt Go.RowKit Go.Deep
open Go.ChangeMaps (open_string shut_string)
def sV1 (d:DataW Unit):Array Value:=match d with
 | .agg l=>(l.map fun x=>match x with | .lit (.int k n)=>Value.int k n | _=>undef).toArray
 | _=>#[]
def sM0 (w:World):World:=
 let w1:=mA1 w
 let n:=w1.heap.size
 { w1 with heap:=(((((w1.heap.modify 5 fun
  | .cells _ t f=>.cells (Lib.pow10Tab.map fun z=>Value.int .u64 z).toArray t f
  | o=>o).modify 9 fun
  | .cells _ t f=>.cells (sV1 Rows.laid_math_bits_deBruijn32tab) t f
  | o=>o).modify 10 fun
  | .cells _ t f=>.cells (sV1 Rows.laid_math_bits_deBruijn64tab) t f
  | o=>o).modify 4 fun
  | .cells _ t f=>.cells #[.iface 326 (.pointer (some ⟨n,0,none⟩))] t f
  | o=>o).modify 3 fun
  | .cells _ t f=>.cells #[.iface 326 (.pointer (some ⟨n+1,0,none⟩))] t f
  | o=>o)++#[.cells #[.string ⟨#[118,97,108,117,101,32,111,117,116,32,111,102,32,114,97,110,103,101]⟩] 328 (0,0),.cells #[.string ⟨#[105,110,118,97,108,105,100,32,115,121,110,116,97,120]⟩] 328 (0,0)] }
theorem mC1 (os:Os):laidMetH Tryz.prog Rows.deskPiecesRow.laid ((sM0 (World.holding Tryz.prog os ⟨#[],#[],[]⟩)).forCall (fun _ _=>0) ⟨#[],#[.string ⟨#[]⟩,.string ⟨#[]⟩],[]⟩).memory:=
 laidMetH_of_parts (laidMet_of_run' 12 (by kernel_rfl) (by kernel_rfl)) (by kernel_rfl)
theorem reads (os:Os) {H:Type} (enc:TypeId×Value→H):∃places,DataW.whole enc Tryz.prog ((sM0 (World.holding Tryz.prog os ⟨#[],#[],[]⟩)).forCall (fun _ _=>0) ⟨#[],#[.string ⟨#[]⟩,.string ⟨#[]⟩],[]⟩).memory Tryz.f3.params.toList Rows.deskPiecesSpec.vars false #[Value.string ⟨#[]⟩,Value.string ⟨#[]⟩].toList 8=some ([.lit (.string []),.lit (.string [])],[],places):=
 ⟨[],by kernel_rfl⟩
set_option maxRecDepth 100000 in
theorem contract (H:Type) (enc:TypeId×Value→H) (W:World) (base:Nat) (args:Array Value) (ds gs:List (DataW H)) (before:List MemPlace)
  (hval:∀(j:Nat) t v,Tryz.f3.params[j]? = some t→args[j]? = some v→Value.okWide Tryz.prog W .any base t v)
  (hW:DataW.Whole enc Tryz.prog Tryz.f3.params.toList Rows.deskPiecesSpec.vars false W args.toList ds gs before) (hwt:(DataW.weightsEach Tryz.prog (Tryz.f3.params.toList++(OpenSpec.ofChange Rows.deskPiecesSpec).bare.plain.varTypes Tryz.prog) (ds++gs)).all (·≤reachBytes)=true) (hsh:W.ShapedOpen Tryz.prog) (hL:laidMetH Tryz.prog Rows.deskPiecesRow.laid W):
  Calls Tryz.prog 3 args W fun e W'=>∃v,e=.returned v∧Rows.deskPiecesSpec.post enc Tryz.prog Tryz.f3 false true false false W args v W':=by
 have hW':=hW;obtain ⟨p,q,hA0,hV,rfl,hfz,hnd⟩:=hW;have hA:DataW.TrodAll enc Tryz.prog W 0 (fun _=>true) true Tryz.f3.params.toList args.toList ds p:=hA0;rw [Tryz.params3] at hA hval hwt;obtain ⟨v0,vs0,d0,ds0,p0,q0,hargs,rfl,rfl,h0,r0⟩:=trodAll_cons hA;obtain ⟨v1,vs1,d1,ds1,p1,q1,rfl,rfl,rfl,h1,r1⟩:=trodAll_cons r0;obtain ⟨rfl,rfl,rfl⟩:=trodAll_nil r1;obtain rfl:args=#[v0,v1]:=by cases args;simp_all
 obtain ⟨rfl,rfl⟩:=trodVars_none hV;obtain ⟨a,rfl,rfl,rfl,w0⟩:=open_string Tryz.underlying9 (hval 0 9 v0 rfl rfl) h0;obtain ⟨b,rfl,rfl,rfl,w1⟩:=open_string Tryz.underlying9 (hval 1 9 v1 rfl rfl) h1;clear hA0
 have la:a.size≤4611686018427387903:=by
  have:=sized_string hwt (j:=0) (t:=9) (bytes:=a.data.toList) rfl rfl;have e:a.data.toList.length=a.size:=Array.length_toList;unfold reachBytes at this;omega
 have lb:b.size≤4611686018427387903:=by
  have:=sized_string hwt (j:=1) (t:=9) (bytes:=b.data.toList) rfl rfl;have e:b.data.toList.length=b.size:=Array.length_toList;unfold reachBytes at this;omega
 have hN:12≤W.heap.size:=by
  obtain ⟨o,_,ho,_⟩:=hsh.2 12 (of_decide_eq_true (by kernel_rfl)) (of_decide_eq_true (by kernel_rfl));exact Nat.le_of_lt (lt_of_block ho)
 have hc:Calls Tryz.prog 3 #[.string a,.string b] W fun e w'=>e=.returned (.bool true)∧Below W.heap.size W w':=by
  by_cases hs:a.size+b.size≤2500
  ·exact xK0 a b W (vD0 hL) hN hs
  ·exact xL0 a b W la lb hs
 simp only [List.append_nil] at hW';refine hc.mono fun e W' ⟨he,hb⟩=>?_
 subst he;refine ⟨_,rfl,_,_,_,[],[],[],hW',?_,?_,?_,hb.frame _,fun h=>by cases h⟩
 ·exact trodAll_cons_mk (shut_bool Tryz.underlying4 _) trodAll_mk0
 ·exact trodAll_cons_mk (shut_string Tryz.underlying9 w0) (trodAll_cons_mk (shut_string Tryz.underlying9 w1) trodAll_mk0)
 ·rfl
set_option maxRecDepth 100000 in
theorem lifted (os:Os) (started:os.Started) (H:Type) (enc:TypeId×Value→H) (F:Stop.Interp):
  ReturnsInHanded {} Tryz.checked os 3 .any ((OpenSpec.ofChange Rows.deskPiecesSpec).preRow enc Tryz.prog Tryz.f3 Rows.deskPiecesRow.domain false Rows.deskPiecesRow.laid) (((OpenSpec.ofChange Rows.deskPiecesSpec).at F).post enc Tryz.prog Tryz.f3 false true false false):=by
 obtain ⟨places,hx⟩:=reads os enc
 refine returnsInHanded_of_row (C:=Tryz.checked) (s:=OpenSpec.ofChange Rows.deskPiecesSpec) Tryz.own started (by kernel_rfl) Tryz.func3
  (witness_row_at (enc:=enc) (C:=Tryz.checked) false (sM0 (World.holding Tryz.prog os ⟨#[],#[],[]⟩)) #[.string ⟨#[]⟩,.string ⟨#[]⟩] rfl (by kernel_rfl) (by kernel_rfl) (by kernel_rfl)
   (OpenSpec.preRow_of_cond 8 hx (by kernel_rfl) (fun k hk=>by cases hk) (by kernel_rfl) (mC1 os))) ?_
 intro W base args ds gs before hval hW _ _ hwt hL hsh _;exact contract H enc W base args ds gs before hval hW hwt hsh hL
end Go.Proofs.YtaelphbianmckaaGreatDoor.deskPieces
namespace Go.Proofs.YtaelphbianmckaaGreatDoor.deskPieces
open Go.ChangeShapes
theorem k2:laidOutB Tryz.pinned.checked.prog=true:=by kernel_rfl
theorem k3:mapsRowed Tryz.pinned.checked.prog=true:=by kernel_rfl
theorem k10:(Rows.deskPiecesRow.inPlace == Tryz.pinned.checked.prog.inPlace 3)=true:=by kernel_rfl
theorem k11:(Rows.deskPiecesRow.unfollowed == Tryz.pinned.checked.prog.unfollowed 3)=true:=by kernel_rfl
theorem k12:(Rows.deskPiecesRow.recurses == Tryz.pinned.checked.prog.recurses 3)=true:=by kernel_rfl
theorem k13:(Rows.deskPiecesRow.named == Tryz.pinned.checked.prog.varsNamed 3)=true:=by kernel_rfl
theorem k23:(Rows.deskPiecesRow.plainKeys == Tryz.pinned.checked.prog.plainKeys)=true:=by kernel_rfl
theorem k25:Tryz.pinned.checked.prog.stopsHeard=true:=by kernel_rfl
theorem k26:Tryz.pinned.checked.prog.mayEnter=true:=by kernel_rfl
theorem k27:(Rows.deskPiecesRow.lifted == Tryz.pinned.checked.prog.liftsFinal)=true:=by kernel_rfl
theorem k28:(Tryz.pinned.checked.prog.make == some Rows.deskPiecesRow.make)=true:=by kernel_rfl
set_option maxRecDepth 100000 in
theorem closed:joinedFacts Tryz.pinned.checked.prog 3 Tryz.f3 (OpenSpec.ofChange Rows.deskPiecesSpec).bare Rows.deskPiecesRow=true:=by
 unfold joinedFacts;refine Bool.and_eq_true_iff.2 ⟨?_,by kernel_rfl⟩;refine Bool.and_eq_true_iff.2 ⟨?_,by kernel_rfl⟩;refine Bool.and_eq_true_iff.2 ⟨?_,by kernel_rfl⟩;refine Bool.and_eq_true_iff.2 ⟨?_,by kernel_rfl⟩;refine Bool.and_eq_true_iff.2 ⟨?_,k28⟩;refine Bool.and_eq_true_iff.2 ⟨?_,k27⟩;refine Bool.and_eq_true_iff.2 ⟨?_,k26⟩;refine Bool.and_eq_true_iff.2 ⟨?_,k25⟩;refine Bool.and_eq_true_iff.2 ⟨?_,by kernel_rfl⟩;refine Bool.and_eq_true_iff.2 ⟨?_,k23⟩;refine Bool.and_eq_true_iff.2 ⟨?_,by kernel_rfl⟩;refine Bool.and_eq_true_iff.2 ⟨?_,by kernel_rfl⟩;refine Bool.and_eq_true_iff.2 ⟨?_,by kernel_rfl⟩;refine Bool.and_eq_true_iff.2 ⟨?_,by kernel_rfl⟩;refine Bool.and_eq_true_iff.2 ⟨?_,by kernel_rfl⟩;refine Bool.and_eq_true_iff.2 ⟨?_,by kernel_rfl⟩;refine Bool.and_eq_true_iff.2 ⟨?_,by kernel_rfl⟩;refine Bool.and_eq_true_iff.2 ⟨?_,by kernel_rfl⟩;refine Bool.and_eq_true_iff.2 ⟨?_,by kernel_rfl⟩;refine Bool.and_eq_true_iff.2 ⟨?_,k13⟩;refine Bool.and_eq_true_iff.2 ⟨?_,k12⟩;refine Bool.and_eq_true_iff.2 ⟨?_,k11⟩;refine Bool.and_eq_true_iff.2 ⟨?_,k10⟩;refine Bool.and_eq_true_iff.2 ⟨?_,by kernel_rfl⟩;refine Bool.and_eq_true_iff.2 ⟨?_,by kernel_rfl⟩;refine Bool.and_eq_true_iff.2 ⟨?_,by kernel_rfl⟩;refine Bool.and_eq_true_iff.2 ⟨?_,by kernel_rfl⟩;refine Bool.and_eq_true_iff.2 ⟨?_,by kernel_rfl⟩;refine Bool.and_eq_true_iff.2 ⟨?_,by kernel_rfl⟩;refine Bool.and_eq_true_iff.2 ⟨?_,k3⟩;refine Bool.and_eq_true_iff.2 ⟨?_,k2⟩
 kernel_rfl
theorem named:Tryz.pinned.checked.prog.funcNamed Rows.deskPiecesRow.func=some 3:=by kernel_rfl
end Go.Proofs.YtaelphbianmckaaGreatDoor.deskPieces
