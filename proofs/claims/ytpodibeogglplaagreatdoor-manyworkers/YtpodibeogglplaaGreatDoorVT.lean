/-
  Proved: whatever the texts and the two numbers are, the law ManyWorkers returns true on every schedule, with no data race, and leaves its arguments as they were; at its return every other goroutine only leaves (however many workers there are, each text's answers are its own). Condition of the row: the listed package variables read as the program's text lays them; the card ties them to the program's own initialisers (the translator's report, over a pruned copy of the project).
-/
import Derived.Test.YtpodibeogglplaaGreatDoorVS
open Go.RowKit
namespace Go.Proofs.YtpodibeogglplaaGreatDoor.manyWorkers
section
open Go.ChangeShapes Go.WideShapes Go.ChangeAt Go.Deep
theorem said:Rows.ManyWorkersSaid:=
 OpenClaim.holds_of_wide_leaving 3 Tryz.f3 rfl rfl rfl rfl rfl rfl rfl ⟨rfl,rfl,rfl,rfl,rfl⟩ rfl rfl rfl rfl rfl named Tryz.func3 closed
  (of_decide_eq_true k7) (by unfold Func.isWrapper;first|(rw[RF (by decide +kernel)];kernel_rfl)|(rw[RD (by decide +kernel)];exact⟨rfl,rfl⟩))
  (λos a H enc _=>by rw[OpenClaim.pre_eq_preRow];exact lifted os a H enc)
theorem plain(f:FuncId)(fn:Func)(c:Tryz.pinned.checked.prog.funcNamed Rows.manyWorkersRow.func=some f)(a:Tryz.pinned.checked.prog.funcs[f]? = some fn):
  true=Tryz.pinned.checked.prog.looks []/\∀(j:Nat) t,fn.params[j]? = some t->Tryz.pinned.checked.prog.wantsStandIn t=false:=by
 obtain rfl:f=3:=Option.some.inj (named.symm.trans c) |>.symm;obtain rfl:fn=Tryz.f3:=(Option.some.inj (Tryz.func3.symm.trans a)).symm;refine⟨by kernel_rfl,λj t b=>?_⟩;rw[Tryz.params3]at b;have d:t=22\/t=3:=by simpa using Array.mem_of_getElem? b
 rcases d with rfl|rfl
 ·exact(show Tryz.prog.wantsStandIn 22=false by kernel_rfl)
 ·exact(show Tryz.prog.wantsStandIn 3=false by kernel_rfl)
end
end Go.Proofs.YtpodibeogglplaaGreatDoor.manyWorkers
namespace Go.Proofs.YtpodibeogglplaaGreatDoor
theorem manyWorkers_card_holds:Rows.ManyWorkersCardSaid:=
 ⟨Claim7.tied_new_at .later Rows.manyWorkersCard.laidKinds true (k:=Rows.manyWorkersCard.stood) (ks:=[]) (Claim7.new_of_sixth manyWorkers.said Rows.manyWorkersCard.stood.harness true rfl ⟨rfl,rfl⟩ k7 k7 manyWorkers.plain) k7,(λD a=>by cases a),manyWorkers_row_tie,(λh=>by cases h),by kernel_rfl⟩
end Go.Proofs.YtpodibeogglplaaGreatDoor
