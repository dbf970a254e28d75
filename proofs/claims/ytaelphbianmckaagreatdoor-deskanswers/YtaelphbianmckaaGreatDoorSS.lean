/-
  Proved: whatever the text is, the law DeskAnswers returns true and leaves its argument as it was (a session is answered, line by line, as the document tells). Condition of the row: the listed package variables read as the program's text lays them; the card ties them to the program's own initialisers (the translator's report, over a pruned copy of the project).
-/
import Derived.Test.YtaelphbianmckaaGreatDoorSR
namespace Go.Proofs.YtaelphbianmckaaGreatDoor.deskAnswers
open Go.ChangeShapes Go.WideShapes Go.ChangeAt Go.RowKit Go.Deep
theorem said:Rows.DeskAnswersSaid:=
 OpenClaim.holds_of_cond 4 Tryz.f4 rfl rfl rfl rfl rfl rfl rfl ⟨rfl,rfl,rfl,rfl,rfl⟩ rfl rfl rfl rfl rfl named Tryz.func4 closed
  (of_decide_eq_true (by kernel_rfl)) (by unfold Func.isWrapper;first | (rw [if_pos (by decide +kernel)];kernel_rfl) | (rw [if_neg (by decide +kernel)];exact ⟨rfl,rfl⟩))
  (fun os started H enc _ F=>by rw [OpenClaim.pre_eq_preRow];exact lifted os started H enc F)
theorem plain (f:FuncId) (fn:Func) (hf:Tryz.pinned.checked.prog.funcNamed Rows.deskAnswersRow.func=some f) (hfn:Tryz.pinned.checked.prog.funcs[f]? = some fn):
  true=Tryz.pinned.checked.prog.looks []∧∀(j:Nat) t,fn.params[j]? = some t→Tryz.pinned.checked.prog.wantsStandIn t=false:=by
 obtain rfl:f=4:=Option.some.inj (named.symm.trans hf) |>.symm;obtain rfl:fn=Tryz.f4:=(Option.some.inj (Tryz.func4.symm.trans hfn)).symm;refine ⟨by kernel_rfl,fun j t ht=>?_⟩;rw [Tryz.params4] at ht;have hm:t=9:=by simpa using Array.mem_of_getElem? ht
 rcases hm with rfl
 exact (show Tryz.prog.wantsStandIn 9=false by kernel_rfl)
end Go.Proofs.YtaelphbianmckaaGreatDoor.deskAnswers
namespace Go.Proofs.YtaelphbianmckaaGreatDoor
theorem deskAnswers_card_holds:Rows.DeskAnswersCardSaid:=
 Claim7.holds_tied_plain_at .later [] _ _ _ _ deskAnswers.said (fun _ h=>by cases h) (by kernel_rfl) (fun _ h=>by cases h) deskAnswers_row_tie rfl ⟨rfl,rfl⟩ (by kernel_rfl) rfl deskAnswers.plain (by kernel_rfl)
#print axioms deskAnswers_card_holds
end Go.Proofs.YtaelphbianmckaaGreatDoor
