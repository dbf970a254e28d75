/- DeskAnswers -/
import Derived.Test.YtaelphbianmckaaGreatDoorSM
open Go.Value renaming int->U, pointer->E, slice->J
open Go.IntKind renaming i64->G
open Go.Obj renaming cells->R
open Go.Ending renaming returned->Y
open Go.Proofs.Tryz
open List renaming mem_append->bQ, mem_singleton->bC
namespace Go.Proofs.YtaelphbianmckaaGreatDoor
section
open Go.RowKit
theorem LOk.sub {L K:List Ord} (h:LOk L) (b:K.Sublist L):LOk K:=⟨fun o a=>h.side o (b.subset a),(b.map Ord.id).nodup h.ids,fun o a=>h.ok o (b.subset a)⟩
theorem LOk.nil:LOk []:=⟨fun _ h=>(by cases h),List.Pairwise.nil,fun _ h=>(by cases h)⟩
theorem idx_no {id:Int} {L:List Ord} (h:¬0<=idxO id L):id ∉ L.map Ord.id:=fun a=>by
 obtain ⟨x,b,rfl⟩:=List.mem_map.1 a;exact h (lD0 _ L 0 ⟨x,b,rfl⟩)
theorem LOk.add {L:List Ord} (h:LOk L) (o:Ord):LOk (addL o L):=by
 unfold addL;split
 ·rename_i h0;unfold addN at h0;split at h0
  ·cases h0
  rename_i h1;split at h0
  ·cases h0
  rename_i h2;split at h0
  ·cases h0
  rename_i h3;have d:fA0 (lieO o).price (lieO o).qty=true:=by simpa using h2
  unfold fA0 at d;simp only [Bool.and_eq_true,decide_eq_true_eq] at d;refine ⟨fun x c=>?_,?_,fun x c=>?_⟩
  ·rcases bQ.1 c with c | c
   ·exact h.side x c
   ·rw [bC.1 c,nH0];have f:¬((decide (1<=o.side)&& decide (o.side<=2))=false):=fun e=>h1 (Or.inl e)
    simp at f;omega
  ·rw [List.map_append];refine List.nodup_append.2 ⟨h.ids,by simp,fun a i b j=>?_⟩;have e:b=o.id:=by simpa [iT0] using j
   rw [e];exact fun g=>idx_no h3 (g ▸ i)
  ·rcases bQ.1 c with c | c
   ·exact h.ok x c
   ·rw [bC.1 c];omega
 ·exact h
theorem LOk.gone {L:List Ord} (h:LOk L) (k:Nat):LOk (dT0 k L):=h.sub (by
 unfold dT0;have e:L.take k++L.drop (k+1)=L.eraseIdx k:=(List.eraseIdx_eq_take_drop_succ L k).symm;rw [e];exact List.eraseIdx_sublist L k)
theorem LOk.can {L:List Ord} (h:LOk L) (id:Int):LOk (canL id L):=by
 unfold canL;split
 ·exact h
 ·exact h.gone _
theorem LOk.lim {L:List Ord} (h:LOk L):LOk (limL L):=h.sub (List.filter_sublist ..)
theorem LOk.fold:∀(P:List Ord) {L:List Ord},LOk L->LOk (P.foldl (fun L o=>addL o L) L)
 | [],_,h=>h
 | o::P,_,h=>LOk.fold P (h.add o)
theorem LOk.meet {a:List Int->Int->Bool} {o:Ord}:∀(X:List Ord) (s:MS),MOk X s->LOk (cC0 a o X s).1.L
 | [],s,h=>by unfold cC0;exact h.ok
 | x::T,s,h=>by
  by_cases h0:s.q<=0
  ·rw [eC0 h0];exact h.ok
  by_cases hk:x.kind=2
  ·rw [jZ0 hk];exact LOk.meet T s h.pass
  cases hf:farB o x with
  | true=>rw [jB0 o7 hk hf];exact h.ok
  | false=>
   cases ha:a s.ts x.price with
   | false=>rw [gT0 o7 hk hf ha];exact h.ok
   | true=>
    rw [fK0 o7 hk hf ha];exact LOk.meet T _ (h.step o o7)
section
variable {M:Mkt}
theorem rS1 (h:LOk M.L):LOk (uncM M).2.L:=by
 rw [xT0];exact (eP1 h).1.lim
theorem hX1 (h:LOk M.L):LOk (kC0 M).L:=LOk.fold M.P h
theorem xD1 (h:LOk M.L):LOk (bT0 M).2.L:=by
 unfold bT0;split
 ·exact h
 ·unfold kP0;have h1:=h;split
  ·exact LOk.nil
  ·split
   ·exact h1
   ·split
    ·exact rS1 h1
    ·split
     ·exact hX1 h1
     ·split
      ·exact h1
      ·split
       ·split
        ·exact rS1 h1
        ·split
         ·exact h1
         ·exact h1
       ·exact h1
theorem cV2 (h:LOk M.L) (o:Ord):LOk (ordM M o).2.L:=by
 unfold ordM;split
 ·have h1:LOk { M with I:=M.I++[o.id] }.L:=h;generalize ({ M with I:=M.I++[o.id] }:Mkt)=M1 at h1;generalize lieO o=p;unfold eW0;split
  ·exact h1
  ·split
   ·exact h1.add p
   ·have b:LOk (bN0 M1 p).1.L:=LOk.meet _ _ (MOk.start h1 _ _)
    have a:LOk (if 0<(bN0 M1 p).1.q/\p.kind≠2 then addL (bX0 p (bN0 M1 p).1.q) (bN0 M1 p).1.L else (bN0 M1 p).1.L):=by
     split
     ·exact b.add _
     ·exact b
    unfold eB0;dsimp only;split
    ·exact a
    ·exact a
 ·exact h
theorem cW2 (h:LOk M.L) (id:Int):LOk (canM M id).L:=by
 unfold canM;split
 ·exact h
 ·split
  ·exact h
  ·exact h.can id
theorem xE1 (h:LOk M.L):LOk (fY0 M).L:=by
 unfold fY0;split
 ·exact h
 ·exact h
theorem xF1 (h:LOk M.L):LOk (eA0 M).L:=by
 unfold eA0;split
 ·split
  ·exact h
  ·split
   ·exact hX1 h
   ·exact h
 ·exact h
end
end
end Go.Proofs.YtaelphbianmckaaGreatDoor
