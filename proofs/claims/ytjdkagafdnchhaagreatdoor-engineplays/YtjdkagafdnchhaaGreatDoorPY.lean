/- A part of the proof of EnginePlays. -/
import Derived.Test.YtjdkagafdnchhaaGreatDoorPA
import Derived.Test.YtjdkagafdnchhaaGreatDoorPX
import Derived.Test.YtjdkagafdnchhaaGreatDoorPH
import Derived.Lib.QuietBelow
import Derived.Test.YtjdkagafdnchhaaGreatDoorPF
import Derived.Test.YtjdkagafdnchhaaGreatDoorPG
import Derived.Deep.LoopGhost
import Derived.Deep.DeepCutAuto
namespace Go.Proofs.YtjdkagafdnchhaaGreatDoor
open Go.RowKit
section
variable {M:Mkt} {lots side:Int→Int} {since:Int} {hands:Bool}
theorem hV1 {rs:List (Int×Int)} {st dy p ti mo:Int} (htab:tabE rs=(0,-1)) (hrl:rs.length≤60) (hp:1≤p∧p≤1000000) (hs:0≤st∧st≤10000) (hd:0≤dy∧dy≤10000) (hti:1≤ti∧ti≤1000000) (hmo:0≤mo∧mo≤10):DayInv (newM rs st dy p ti mo) (fun _=>0) (fun _=>0) 0 false:=by
 have hph:(phaseV rs 0).1=1:=by
  obtain ⟨_,h1,h2⟩:=aB1 htab;obtain ⟨n,e⟩:=pL0 (now:=0) h2 (by rw [h1];exact Int.le_refl 0);unfold phaseV;rw [e,h1]
 exact ⟨⟨htab,hrl,hp,hp,⟨hs,hd⟩,hti,hmo,⟨Int.le_refl 0,hmo.1⟩,Int.le_refl 0,(fun x hx=>by cases hx),(fun x hx=>by cases hx),(fun x hx=>by cases hx),(fun x hx=>by cases hx),Nat.zero_le _,fun _=>⟨Int.le_refl 0,by decide⟩⟩,Or.inr (Or.inr hph.symm),fun e=>absurd (hph.symm.trans e) (by decide),(fun e=>absurd (show (1:Int)=7 from e) (by decide)),(fun e=>absurd (show (1:Int)=3 from e) (by decide)),(fun _ e=>absurd (show (1:Int)=4 from e) (by decide)),⟨Int.le_refl 0,fun _=>rfl⟩⟩
theorem DayInv.open_ (h:DayInv M lots side since false):DayInv (dZ0 M) lots side (eH0 (dZ0 M) since) (decide (iZ0 M=0)):=by
 by_cases hp:M.ph=6
 ·have e2:iZ0 M=0:=by unfold iZ0;rw [if_pos hp]
  have hn7:¬(phaseV M.rs M.now).1=7:=fun e=>by have:=h.fin e;omega
  have hs:since=0:=h.sn.2 (by omega);have e1:dZ0 M=if (phaseV M.rs M.now).1=3 then volM M else if (phaseV M.rs M.now).1=5 then iG0 M else { M with ph:=(phaseV M.rs M.now).1 }:=by unfold dZ0;rw [if_pos hp]
  rw [e2,e1]
  by_cases h3:(phaseV M.rs M.now).1=3
  ·rw [if_pos h3];have es:eH0 (volM M) since=0:=by unfold eH0;rw [hs];split <;> rfl
   rw [es];exact ⟨⟨h.tab,h.rl,h.an,h.la,h.sh,h.ti,h.mo,⟨Int.le_refl 0,h.mo.1⟩,h.now,h.kp,h.idI,h.dis,h.pP,h.few,h.lb⟩,Or.inr (Or.inl ⟨rfl,h3⟩),fun e=>absurd e hn7,(fun e=>absurd (show (4:Int)=7 from e) (by decide)),(fun e=>absurd (show (4:Int)=3 from e) (by decide)),(fun e=>by simp at e),⟨Int.le_refl 0,fun _=>rfl⟩⟩
  ·rw [if_neg h3]
   by_cases h5:(phaseV M.rs M.now).1=5
   ·rw [if_pos h5];have es:eH0 (iG0 M) since=0:=if_neg (by show ¬(5:Int)=4;decide);rw [es];exact h.toDayA.clos h5
   ·rw [if_neg h5];have hfive:=rC0 (now:=M.now) h.tab;have es:eH0 { M with ph:=(phaseV M.rs M.now).1 } since=0:=by unfold eH0;rw [hs];split <;> rfl
    rw [es];exact ⟨⟨h.tab,h.rl,h.an,h.la,h.sh,h.ti,h.mo,h.lo,h.now,h.kp,h.idI,h.dis,h.pP,h.few,h.lb⟩,Or.inr (Or.inr rfl),fun e=>absurd e hn7,(fun e=>absurd e hn7),(fun e=>absurd e h3),(fun e=>by simp at e),⟨Int.le_refl 0,fun _=>rfl⟩⟩
 ·have e1:dZ0 M=M:=by unfold dZ0;rw [if_neg hp]
  have e2:iZ0 M=6:=by unfold iZ0;rw [if_neg hp]
  rw [e1,e2,fL0 h rfl];exact h
theorem lZ1 {id:Int} {L:List Ord} {x:Ord} (h:x∈canL id L):x∈L:=by
 unfold canL at h;split at h
 ·exact h
 ·unfold dI0 at h;rcases List.mem_append.1 h with h | h
  ·exact List.mem_of_mem_take h
  ·exact List.mem_of_mem_drop h
theorem hX1 {i:Nat} {L:List Ord} {x:Ord} (h:x∈dI0 i L):x∈L:=by
 unfold dI0 at h;rcases List.mem_append.1 h with h | h
 ·exact List.mem_of_mem_take h
 ·exact List.mem_of_mem_drop h
theorem vT0 (i:Nat) (L:List Ord):(dI0 i L).length≤L.length:=by
 unfold dI0;rw [List.length_append,List.length_take,List.length_drop];omega
theorem mA1 (id:Int) (L:List Ord):(canL id L).length≤L.length:=by
 unfold canL;split
 ·exact lR7
 ·exact vT0 _ _
theorem DayInv.less (h:DayInv M lots side since hands) {L' P':List Ord} (h1:∀x∈L',x∈M.L) (h2:∀x∈P',x∈M.P) (h3:L'.length≤M.L.length) (h4:P'.length≤M.P.length):DayInv { M with L:=L',P:=P' } lots side since hands:=by
 have hsub:∀x∈L'++P',x∈M.L++M.P:=fun x hx=>(List.mem_append.1 hx).elim (fun e=>List.mem_append_left _ (h1 x e)) (fun e=>List.mem_append_right _ (h2 x e))
 refine ⟨⟨h.tab,h.rl,h.an,h.la,h.sh,h.ti,h.mo,h.lo,h.now,h.kp.sub hsub,fun x hx=>h.idI x (hsub x hx),fun x hx y hy=>h.dis x (h1 x hx) y (h2 y hy),fun x hx=>h.pP x (h2 x hx),?_,h.lb⟩,h.ph,h.fin,fun e=>?_,fun e=>⟨fun x hx=>(h.tr e).1 x (h1 x hx),fun x hx y hy=>(h.tr e).2 x (h1 x hx) y (h1 y hy)⟩,h.vol,h.sn⟩
 ·have:=h.few;show L'.length+P'.length≤100;omega
 ·obtain ⟨a,b⟩:=h.none e;rw [a] at h3;rw [b] at h4;exact ⟨List.eq_nil_of_length_eq_zero (Nat.le_zero.1 h3),List.eq_nil_of_length_eq_zero (Nat.le_zero.1 h4)⟩
theorem DayInv.cancel (h:DayInv M lots side since hands) (id:Int):DayInv (canM M id) lots side (eH0 (canM M id) since) hands:=by
 have key:DayInv (canM M id) lots side since hands∧(canM M id).ph=M.ph:=by
  unfold canM
  by_cases h7:M.ph=7
  ·rw [if_pos h7];exact ⟨h,rfl⟩
  ·rw [if_neg h7]
   by_cases hi:0≤idxO id M.P
   ·rw [if_pos hi];exact ⟨h.less (fun _ hx=>hx) (fun _ hx=>hX1 hx) lR7 (vT0 _ _),rfl⟩
   ·rw [if_neg hi];exact ⟨h.less (fun _ hx=>lZ1 hx) (fun _ hx=>hx) (mA1 _ _) lR7,rfl⟩
 rw [fL0 h key.2];exact key.1
theorem DayInv.order_no (h:DayInv M lots side since hands) {o:Ord} (hn:ordN M o≠0):(ordM M o).1=[]∧DayInv (ordM M o).2 lots side (eH0 (ordM M o).2 since) hands:=by
 have e:ordM M o=([],M):=by unfold ordM;rw [if_neg hn]
 rw [e];refine ⟨rfl,?_⟩;show DayInv M lots side (eH0 M since) hands;rw [fL0 h rfl];exact h
theorem DayInv.taken (h:DayInv M lots side since hands) {p:Ord} (hr:RefOk M p):DayInv { M with I:=M.I++[p.id] } (upF lots p.id p.qty) (upF side p.id p.side) since hands:=by
 have hne:∀x∈M.L++M.P,x.id≠p.id:=fun x hx e=>hr.new (by rw [←e];exact h.idI x hx)
 refine ⟨⟨h.tab,h.rl,h.an,h.la,h.sh,h.ti,h.mo,h.lo,h.now,(h.kp.up hne).upS hne,fun x hx=>List.mem_append_left _ (h.idI x hx),h.dis,h.pP,h.few,fun id=>?_⟩,h.ph,h.fin,h.none,h.tr,h.vol,h.sn⟩
 by_cases e:id=p.id
 ·subst e;rw [fS0];have:=hr.right;omega
 ·rw [fB0 e];exact h.lb id
theorem hY1 (s:Int) (L:List Ord):(aJ0 s L).Pairwise (fun a b=>eS0 s a≤eS0 s b):=hL0 _
theorem DayInv.order_yes (h:DayInv M lots side since hands) {o:Ord} (hL:LOk M.L) (hw:(Lit.int .i64 o.id).wf=true) (hn:ordN M o=0):
  fC0 (upF side o.id o.side) (upF lots o.id o.qty) (ordM M o).1∧mH0 M.st M.dy M.an M.la (ordM M o).1∧((ordM M o).1≠[]→M.ph=3)
   ∧DayInv (ordM M o).2 (bU0 (upF lots o.id o.qty) (ordM M o).1) (upF side o.id o.side) (eH0 (ordM M o).2 since) hands:=by
 have hr:RefOk M (lieO o):=vR0 (by rw [←sY0];exact hn);have hT:=h.taken hr;have e:ordM M o=eO0 { M with I:=M.I++[(lieO o).id] } (lieO o):=by unfold ordM;rw [if_pos hn,hC0]
 have hwp:(Lit.int .i64 (lieO o).id).wf=true:=by rw [hC0];exact hw
 have hnew:∀x∈M.L++M.P,x.id≠(lieO o).id:=fun x hx e=>hr.new (by rw [←e];exact h.idI x hx)
 have hlie:lieO (lieO o)=lieO o:=by
  by_cases hk:o.kind=2
  ·unfold lieO;rw [if_pos hk];exact if_pos hk
  ·unfold lieO;rw [if_neg hk];exact if_neg hk
 rw [e,show upF side o.id o.side=upF side (lieO o).id (lieO o).side by rw [hC0,oD0],show upF lots o.id o.qty=upF lots (lieO o).id (lieO o).qty by rw [hC0,aI1]];generalize lieO o=p at hr hT hwp hnew hlie;have hkp:dP0 (upF lots p.id p.qty) (upF side p.id p.side) [p]:=fun x hx=>by rw [List.mem_singleton.1 hx];exact ⟨fS0 _ _ _,fS0 _ _ _⟩
 have hself:p.id∈M.I++[p.id]:=List.mem_append_right _ (List.mem_singleton.2 rfl);have hroom:=hr.room;unfold eO0
 by_cases hpk:p.kind=4∧M.ph≠5
 ·rw [if_pos (show p.kind=4∧({ M with I:=M.I++[p.id] }:Mkt).ph≠5 from hpk)];refine ⟨trivial,trivial,fun e=>absurd rfl e,?_⟩;have es:eH0 { M with I:=M.I++[p.id],P:=M.P++[p] } since=since:=fL0 h rfl;show DayInv { M with I:=M.I++[p.id],P:=M.P++[p] } (upF lots p.id p.qty) (upF side p.id p.side) (eH0 { M with I:=M.I++[p.id],P:=M.P++[p] } since) hands;rw [es];refine ⟨⟨h.tab,h.rl,h.an,h.la,h.sh,h.ti,h.mo,h.lo,h.now,?_,fun x hx=>?_,fun x hx y hy=>?_,fun x hx=>?_,?_,hT.lb⟩,h.ph,h.fin,fun e=>?_,h.tr,h.vol,h.sn⟩
  ·show dP0 _ _ (M.L++(M.P++[p]));rw [←List.append_assoc];exact lK0 hT.kp hkp
  ·have hx':x∈(M.L++M.P)++[p]:=by rw [List.append_assoc];exact hx
   rcases List.mem_append.1 hx' with hx | hx
   ·exact hT.idI x hx
   ·rw [List.mem_singleton.1 hx];exact hself
  ·rcases List.mem_append.1 hy with hy | hy
   ·exact h.dis x hx y hy
   ·rw [List.mem_singleton.1 hy];exact fun e=>hnew x (List.mem_append_left _ hx) e.symm
  ·rcases List.mem_append.1 hx with hx | hx
   ·exact h.pP x hx
   ·rw [List.mem_singleton.1 hx];exact ⟨hpk.1,hwp⟩
  ·show M.L.length+(M.P++[p]).length≤100;rw [List.length_append,List.length_singleton];omega
  ·exfalso;have ht:=hr.takes;have e':M.ph=7:=e;rw [e',hpk.1] at ht;exact absurd ht (by decide)
 rw [if_neg (show ¬(p.kind=4∧({ M with I:=M.I++[p.id] }:Mkt).ph≠5) from hpk)]
 have hadd:∀{L0 L':List Ord} {q0:Ord},lieO q0=q0→L'=addL q0 L0→(∀x∈L',x∈L0∨x=q0):=fun hq e x hx=>by
  rw [e] at hx;rcases aJ1 hx with h1 | h1
  ·exact Or.inl h1
  ·rw [hq] at h1;exact Or.inr h1
 by_cases h3:M.ph=3
 ·rw [if_neg (fun e=>e (show ({ M with I:=M.I++[p.id] }:Mkt).ph=3 from h3))];obtain ⟨tk,tap⟩:=h.tr h3
  have hk1:p.kind=1∨p.kind=2:=by
   have ht:=hr.takes;rw [h3] at ht;have hk:=hr.kind;unfold dV0 eE0 fP0 at ht
   by_cases k3:p.kind=3
   ·rw [k3] at ht;exact absurd ht (by decide)
   ·by_cases k4:p.kind=4
    ·exact absurd ⟨k4,by omega⟩ hpk
    ·omega
  have hMF0:MF { M with I:=M.I++[p.id] } p (upF lots p.id p.qty) (upF side p.id p.side) ⟨[],M.L,p.qty,[]⟩:=⟨trivial,(hT.kp.sub (fun x hx=>List.mem_append_left _ hx)),⟨fS0 _ _ _,fS0 _ _ _⟩,fun x hx=>hnew x (List.mem_append_left _ hx),rfl,trivial,by show 0≤p.qty;have:=hr.right;omega,fun x hx=>⟨x,hx,rfl,rfl,rfl,rfl⟩,lR7,(fun t ht=>by cases ht),(fun f hf=>by cases hf)⟩;have hMF:=mI0 hr.side (aJ0 (3 - p.side) M.L) _ hMF0 (MOk.start hL _ _) (fun x hx=>(bC0.1 hx).2);have hleft:=fun s'=>rF0 (M:={ M with I:=M.I++[p.id] }) hr.side (aJ0 (3 - p.side) M.L) ⟨[],M.L,p.qty,[]⟩ s' (MOk.start hL _ _) (hY1 _ _) (fun x hx=>by rw [tk x (bC0.1 hx).1];decide) (fun y hy hyS=>bC0.2 ⟨hy,hyS⟩)
  unfold dW0;have emt:bM0 { M with I:=M.I++[p.id] } p=bS0 (alM { M with I:=M.I++[p.id] }) p (aJ0 (3 - p.side) M.L) ⟨[],M.L,p.qty,[]⟩:=rfl;rw [←emt] at hMF hleft;generalize bM0 { M with I:=M.I++[p.id] } p=mt at hMF hleft ⊢;obtain ⟨s,t⟩:=mt;dsimp only at hMF hleft ⊢;refine ⟨hMF.fok,hMF.bands,fun _=>h3,?_⟩
  have hPk:dP0 (bU0 (upF lots p.id p.qty) s.fs) (upF side p.id p.side) M.P:=kI0 (fun f hf x hx=>by
   obtain ⟨w1,w2⟩:=hMF.who f hf;refine ⟨?_,?_⟩
   ·rcases w1 with e | ⟨a,ha,ea⟩
    ·rw [e];exact hnew x (List.mem_append_right _ hx)
    ·rw [←ea];exact h.dis a ha x hx
   ·rcases w2 with e | ⟨a,ha,ea⟩
    ·rw [e];exact hnew x (List.mem_append_right _ hx)
    ·rw [←ea];exact h.dis a ha x hx) (hT.kp.sub (fun x hx=>List.mem_append_right _ hx))
  generalize hL2:(if 0<s.q∧p.kind≠2 then addL (bJ0 p s.q) s.L else s.L)=L2
  have hmem:∀x∈L2,x∈s.L∨(x=bJ0 p s.q∧0<s.q∧p.kind=1):=fun x hx=>by
   by_cases hc:0<s.q∧p.kind≠2
   ·rw [if_pos hc] at hL2;have hk:p.kind=1:=hk1.elim id (fun e=>absurd e hc.2);have hl:lieO (bJ0 p s.q)=bJ0 p s.q:=if_neg (by show ¬p.kind=2;omega);rcases hadd hl hL2.symm x hx with h1 | h1
    ·exact Or.inl h1
    ·exact Or.inr ⟨h1,hc.1,hk⟩
   ·rw [if_neg hc] at hL2;rw [←hL2] at hx;exact Or.inl hx
  have hlen:L2.length≤M.L.length+1:=by
   have:=hMF.len;have h0:s.L.length≤M.L.length:=this
   by_cases hc:0<s.q∧p.kind≠2
   ·rw [if_pos hc] at hL2;rw [←hL2];have:=sZ0 (bJ0 p s.q) s.L;omega
   ·rw [if_neg hc] at hL2;rw [←hL2];omega
  have hA:DayA { M with I:=M.I++[p.id],L:=L2,la:=bW0 M.la s.ts } (bU0 (upF lots p.id p.qty) s.fs) (upF side p.id p.side):=by
   refine ⟨h.tab,h.rl,h.an,?_,h.sh,h.ti,h.mo,h.lo,h.now,lK0 (fun x hx=>?_) hPk,fun x hx=>?_,fun x hx y hy=>?_,h.pP,?_,nN0 hMF.fok hT.lb⟩
   ·show 1≤bW0 M.la s.ts∧bW0 M.la s.ts≤1000000;exact aC1 (P:=fun t=>1≤t∧t≤1000000) h.la hMF.tsr
   ·rcases hmem x hx with h1 | ⟨h1,_,_⟩
    ·exact hMF.kp x h1
    ·rw [h1];exact hMF.me
   ·show x.id∈M.I++[p.id];rcases List.mem_append.1 hx with hx | hx
    ·rcases hmem x hx with h1 | ⟨h1,_,_⟩
     ·obtain ⟨y,hy,ey,_⟩:=hMF.sub x h1;rw [←ey];exact List.mem_append_left _ (h.idI y (List.mem_append_left _ hy))
     ·rw [h1];exact hself
    ·exact List.mem_append_left _ (h.idI x (List.mem_append_right _ hx))
   ·rcases hmem x hx with h1 | ⟨h1,_,_⟩
    ·obtain ⟨z,hz,ez,_⟩:=hMF.sub x h1;rw [←ez];exact h.dis z hz y hy
    ·rw [h1];exact hnew y (List.mem_append_right _ hy)
   ·show L2.length+M.P.length≤100;omega
  have hpv3:(phaseV M.rs M.now).1=3:=by
   rcases h.ph with e | ⟨e,_⟩ | e
   ·omega
   ·omega
   ·omega
  have hs0:since=0:=h.sn.2 (by omega);cases t with
  | true=>
   rw [if_pos rfl];have es:eH0 (volM { M with I:=M.I++[p.id],L:=L2,la:=bW0 M.la s.ts }) since=0:=by unfold eH0;rw [hs0];split <;> rfl
   show DayInv (volM { M with I:=M.I++[p.id],L:=L2,la:=bW0 M.la s.ts }) _ _ (eH0 (volM { M with I:=M.I++[p.id],L:=L2,la:=bW0 M.la s.ts }) since) hands;rw [es];refine ⟨⟨hA.tab,hA.rl,hA.an,hA.la,hA.sh,hA.ti,hA.mo,⟨Int.le_refl 0,h.mo.1⟩,hA.now,hA.kp,hA.idI,hA.dis,hA.pP,hA.few,hA.lb⟩,Or.inr (Or.inl ⟨rfl,hpv3⟩),fun e=>absurd (hpv3.symm.trans e) (by decide),(fun e=>absurd (show (4:Int)=7 from e) (by decide)),(fun e=>absurd (show (4:Int)=3 from e) (by decide)),(fun _ _=>?_),⟨Int.le_refl 0,fun _=>rfl⟩⟩;show 0+(M.now+M.ti - M.now)=(0+1)*M.ti∧1≤M.now+M.ti - M.now;have:=h.ti;omega
  | false=>
   rw [if_neg (by decide)];have es:eH0 { M with I:=M.I++[p.id],L:=L2,la:=bW0 M.la s.ts } since=since:=fL0 h rfl;show DayInv { M with I:=M.I++[p.id],L:=L2,la:=bW0 M.la s.ts } _ _ (eH0 { M with I:=M.I++[p.id],L:=L2,la:=bW0 M.la s.ts } since) hands;rw [es];refine ⟨hA,h.ph,h.fin,fun e=>absurd (show M.ph=7 from e) (by omega),fun _=>⟨fun x hx=>?_,fun x hx y hy sx sy=>?_⟩,fun _ e=>absurd (show M.ph=4 from e) (by omega),h.sn⟩
   ·rcases hmem x hx with h1 | ⟨h1,_,h2⟩
    ·obtain ⟨y,hy,_,_,ek,_⟩:=hMF.sub x h1;rw [←ek];exact tk y hy
    ·rw [h1];exact h2
   ·have far:∀{z:Ord},z∈s.L→z.side=3 - p.side→0<s.q→farB p z=true:=fun hz hzs hq=>hleft s rfl hq _ hz hzs
    have hsd:=hr.side;rcases hmem x hx with h1 | ⟨h1,hq,hk⟩
    ·rcases hmem y hy with h2 | ⟨h2,hq,hk⟩
     ·obtain ⟨a,ha,_,sa,_,ap⟩:=hMF.sub x h1;obtain ⟨b,hb,_,sb,_,bp⟩:=hMF.sub y h2;rw [←ap,←bp];exact tap a ha b hb (sa.trans sx) (sb.trans sy)
     ·have sp:p.side=2:=by rw [h2] at sy;exact sy
      have hf:=far h1 (by rw [sx,sp];rfl) hq;unfold farB at hf;rw [hk,sp] at hf;rw [h2];show x.price<p.price
      simpa using hf
    ·rcases hmem y hy with h2 | ⟨h2,_,_⟩
     ·have sp:p.side=1:=by rw [h1] at sx;exact sx
      have hf:=far h2 (by rw [sy,sp];rfl) hq;unfold farB at hf;rw [hk,sp] at hf;rw [h1];show p.price<y.price
      simpa using hf
     ·rw [h1] at sx;rw [h2] at sy;have a1:p.side=1:=sx;have a2:p.side=2:=sy;omega
 ·rw [if_pos (show ({ M with I:=M.I++[p.id] }:Mkt).ph≠3 from h3)];refine ⟨trivial,trivial,fun e=>absurd rfl e,?_⟩;have es:eH0 { M with I:=M.I++[p.id],L:=addL p M.L } since=since:=fL0 h rfl;show DayInv { M with I:=M.I++[p.id],L:=addL p M.L } (upF lots p.id p.qty) (upF side p.id p.side) (eH0 { M with I:=M.I++[p.id],L:=addL p M.L } since) hands;rw [es];have hmem:∀x∈addL p M.L,x∈M.L∨x=p:=hadd hlie rfl;refine ⟨⟨h.tab,h.rl,h.an,h.la,h.sh,h.ti,h.mo,h.lo,h.now,?_,fun x hx=>?_,fun x hx y hy=>?_,h.pP,?_,hT.lb⟩,h.ph,h.fin,fun e=>?_,fun e=>absurd e h3,h.vol,h.sn⟩
  ·refine lK0 (fun x hx=>?_) (hT.kp.sub (fun x hx=>List.mem_append_right _ hx));rcases hmem x hx with h1 | h1
   ·exact hT.kp x (List.mem_append_left _ h1)
   ·exact hkp x (List.mem_singleton.2 h1)
  ·show x.id∈M.I++[p.id];rcases List.mem_append.1 hx with hx | hx
   ·rcases hmem x hx with h1 | h1
    ·exact hT.idI x (List.mem_append_left _ h1)
    ·rw [h1];exact hself
   ·exact hT.idI x (List.mem_append_right _ hx)
  ·rcases hmem x hx with h1 | h1
   ·exact h.dis x h1 y hy
   ·rw [h1];exact hnew y (List.mem_append_right _ hy)
  ·have:=sZ0 p M.L;show (addL p M.L).length+M.P.length≤100;omega
  ·exfalso;have ht:=hr.takes;have e':M.ph=7:=e;rw [e'] at ht;have hk:=hr.kind;unfold dV0 eE0 fP0 at ht;simp at ht
end
theorem rI0 (p:Int) (s:FS):∀k,(aT0 p s k).fs.length=s.fs.length+k
 | 0=>rfl
 | k+1=>by
  show ((aT0 p s k).fs++[_]).length=_;rw [List.length_append,rI0 p s k];rfl
theorem hZ1 {M:Mkt} (h:LOk M.L) (hL:M.L.length≤100):(uncM M).1.length≤101:=by
 unfold uncM
 by_cases hq:0<(aH0 M).qty
 ·rw [if_pos hq];have hF:FOk (aH0 M).price ⟨[],M.L,(aH0 M).qty⟩:=eP0 M.la h hq;obtain ⟨K,e,_,hj⟩:=rE0 hF;show (hV0 (aH0 M).price (aH0 M).qty M.L).fs.length≤101;rw [e,rI0];cases K with
  | zero=>exact Nat.zero_le _
  | succ K=>
   have:=hN0 hF K hj;have e3:(⟨[],M.L,(aH0 M).qty⟩:FS).L.length=M.L.length:=rfl;have e4:(⟨[],M.L,(aH0 M).qty⟩:FS).fs.length=0:=rfl;omega
 ·rw [if_neg hq];exact Nat.zero_le _
def qD0 (M M':Mkt):Prop:=M'.rs=M.rs∧M'.st=M.st∧M'.dy=M.dy∧M'.ti=M.ti∧M'.mo=M.mo
theorem iA1 (M:Mkt):qD0 M (uncM M).2:=by
 unfold uncM;split <;> exact ⟨rfl,rfl,rfl,rfl,rfl⟩
theorem mB1 (M:Mkt):(uncM M).2.now=M.now:=by unfold uncM;split <;> rfl
theorem vU0 {M:Mkt} (h:LOk M.L) (hL:M.L.length≤100):(cL0 M).1.length≤101∧qD0 M (cL0 M).2∧(cL0 M).2.now≤M.now+1:=by
 have hu:=hZ1 (M:={ M with now:=M.now+1 }) h hL;have hs:qD0 M (uncM { M with now:=M.now+1 }).2:=iA1 { M with now:=M.now+1 };have hn:(uncM { M with now:=M.now+1 }).2.now=M.now+1:=mB1 { M with now:=M.now+1 };have hself:qD0 M M:=⟨rfl,rfl,rfl,rfl,rfl⟩;have hself1:qD0 M { M with now:=M.now+1 }:=⟨rfl,rfl,rfl,rfl,rfl⟩;unfold cL0
 by_cases h7:M.ph=7
 ·rw [if_pos h7];exact ⟨Nat.zero_le _,hself,by show M.now≤M.now+1;omega⟩
 rw [if_neg h7,sX0];have hres:(resM { M with now:=M.now+1 }).1.length≤101∧qD0 M (resM { M with now:=M.now+1 }).2∧(resM { M with now:=M.now+1 }).2.now≤M.now+1:=⟨hu,hs,by show (uncM { M with now:=M.now+1 }).2.now≤M.now+1;omega⟩;split
 ·unfold finM
  by_cases h5:M.ph=5
  ·rw [if_pos (show ({ M with now:=M.now+1 }:Mkt).ph=5 from h5),if_pos (show ({ M with now:=M.now+1 }:Mkt).ph=5 from h5)];exact ⟨hu,hs,by show (uncM { M with now:=M.now+1 }).2.now≤M.now+1;omega⟩
  ·rw [if_neg (show ¬({ M with now:=M.now+1 }:Mkt).ph=5 from h5),if_neg (show ¬({ M with now:=M.now+1 }:Mkt).ph=5 from h5)];exact ⟨Nat.zero_le _,hself1,Int.le_refl _⟩
 split
 ·exact ⟨Nat.zero_le _,hself1,Int.le_refl _⟩
 split
 ·unfold mZ0;split
  ·exact hres
  split
  ·exact ⟨Nat.zero_le _,hself1,Int.le_refl _⟩
  ·exact ⟨Nat.zero_le _,hself1,Int.le_refl _⟩
 split
 ·unfold setM;split
  ·exact hres
  split
  ·exact ⟨Nat.zero_le _,hself1,Int.le_refl _⟩
  ·exact ⟨Nat.zero_le _,hself1,Int.le_refl _⟩
 ·exact ⟨Nat.zero_le _,hself1,Int.le_refl _⟩
theorem aL1 {M:Mkt} {o:Ord} (hL:M.L.length≤100):(ordM M o).1.length≤101∧qD0 M (ordM M o).2∧(ordM M o).2.now=M.now:=by
 unfold ordM;split
 ·unfold eO0;split
  ·exact ⟨Nat.zero_le _,⟨rfl,rfl,rfl,rfl,rfl⟩,rfl⟩
  split
  ·exact ⟨Nat.zero_le _,⟨rfl,rfl,rfl,rfl,rfl⟩,rfl⟩
  ·unfold dW0;refine ⟨?_,?_,?_⟩
   ·have:=(oK0 (alM { M with I:=M.I++[o.id] }) (lieO o) (aJ0 (3 - (lieO o).side) M.L) ⟨[],M.L,(lieO o).qty,[]⟩).1;have h2:=hK0 (3 - (lieO o).side) M.L;have e:(⟨[],M.L,(lieO o).qty,[]⟩:MS).fs.length=0:=rfl;show (bM0 { M with I:=M.I++[o.id] } (lieO o)).1.fs.length≤101;unfold bM0;show (bS0 (alM { M with I:=M.I++[o.id] }) (lieO o) (aJ0 (3 - (lieO o).side) M.L) ⟨[],M.L,(lieO o).qty,[]⟩).1.fs.length≤101;omega
   ·dsimp only;split <;> exact ⟨rfl,rfl,rfl,rfl,rfl⟩
   ·dsimp only;split <;> rfl
 ·exact ⟨Nat.zero_le _,⟨rfl,rfl,rfl,rfl,rfl⟩,rfl⟩
theorem iB1 (M:Mkt) (id:Int):qD0 M (canM M id)∧(canM M id).now=M.now:=by
 unfold canM;split
 ·exact ⟨⟨rfl,rfl,rfl,rfl,rfl⟩,rfl⟩
 split <;> exact ⟨⟨rfl,rfl,rfl,rfl,rfl⟩,rfl⟩
theorem cR1 (M:Mkt):qD0 M (gH0 M)∧(gH0 M).now=M.now:=by
 unfold gH0;split <;> exact ⟨⟨rfl,rfl,rfl,rfl,rfl⟩,rfl⟩
theorem cS1 (M:Mkt):qD0 M (dZ0 M)∧(dZ0 M).now=M.now:=by
 unfold dZ0;split
 ·split
  ·exact ⟨⟨rfl,rfl,rfl,rfl,rfl⟩,rfl⟩
  split <;> exact ⟨⟨rfl,rfl,rfl,rfl,rfl⟩,rfl⟩
 ·exact ⟨⟨rfl,rfl,rfl,rfl,rfl⟩,rfl⟩
section
variable {M:Mkt} {lots side:Int→Int} {since:Int} {hands:Bool}
theorem DayInv.hT (h:DayInv M lots side since hands):DayInv M lots side 0 true:=
 ⟨h.toDayA,h.ph,h.fin,h.none,h.tr,(fun e=>by cases e),⟨Int.le_refl _,fun _=>rfl⟩⟩
theorem DayInv.haltT (h:DayInv M lots side 0 true):DayInv (gH0 M) lots side 0 true:=by
 unfold gH0
 by_cases hp:M.ph=6∨M.ph=7
 ·rw [if_pos hp];exact h
 ·rw [if_neg hp];refine ⟨⟨h.tab,h.rl,h.an,h.la,h.sh,h.ti,h.mo,h.lo,h.now,h.kp,h.idI,h.dis,h.pP,h.few,h.lb⟩,Or.inl rfl,fun e=>absurd (Or.inr (h.fin e)) hp,(fun e=>by cases e),(fun e=>by cases e),(fun e=>by cases e),⟨Int.le_refl _,fun _=>rfl⟩⟩
theorem DayInv.openT (h:DayInv M lots side 0 true):DayInv (dZ0 M) lots side 0 true:=by
 by_cases hp:M.ph=6
 ·have h':DayInv M lots side 0 false:=⟨h.toDayA,h.ph,h.fin,h.none,h.tr,(fun _ e=>by rw [hp] at e;exact absurd e (by decide)),h.sn⟩;exact h'.open_.hT
 ·have e:dZ0 M=M:=by unfold dZ0;rw [if_neg hp]
  rw [e];exact h
end
theorem iC1 (M:Mkt):(uncM M).2.I=M.I:=by unfold uncM;split <;> rfl
theorem qI1 (was is:Int) (m:Mkt):(jT0 was is m).2.I=m.I:=by
 unfold jT0;split
 ·show (if m.ph=5 then (uncM m).2 else m).I=m.I;split
  ·exact iC1 m
  ·rfl
 split
 ·rfl
 split
 ·exact iC1 m
 split
 ·rfl
 split
 ·rfl
 split
 ·split
  ·exact iC1 m
  split <;> rfl
 ·rfl
theorem qJ1 (M:Mkt):(cL0 M).2.I=M.I:=by
 unfold cL0;split
 ·rfl
 ·exact qI1 _ _ _
theorem sS1 (M:Mkt) (id:Int):(canM M id).I=M.I:=by
 unfold canM;split
 ·rfl
 ·split <;> rfl
theorem qK1 (M:Mkt):(gH0 M).I=M.I:=by unfold gH0;split <;> rfl
theorem qL1 (M:Mkt):(dZ0 M).I=M.I:=by
 unfold dZ0;split
 ·split
  ·rfl
  split <;> rfl
 ·rfl
theorem sT1 (M:Mkt) (o:Ord):(ordM M o).2.I.length≤M.I.length+1:=by
 unfold ordM;split
 ·have e:(M.I++[o.id]).length=M.I.length+1:=by simp
  unfold eO0;split
  ·show (M.I++[o.id]).length≤_;omega
  split
  ·show (M.I++[o.id]).length≤_;omega
  ·unfold dW0;dsimp only;split
   ·show (M.I++[o.id]).length≤_;omega
   ·show (M.I++[o.id]).length≤_;omega
 ·exact Nat.le_succ _
set_option maxRecDepth 100000 in
set_option maxHeartbeats 1000000 in
theorem iD1 (B1 B2:Nat) (v1 v2:Value) (l:List Ord) (w:World) (h1:w.ownsRow B1 41 5 v1 l.length (oV l)) (h2:w.ownsRow B2 41 5 v2 l.length (oV l)) (hl:l.length≤1000):
  Calls Tryz.prog 27 #[v1,v2] w fun e W'=>e=.returned (.bool true)∧Below w.heap.size w W':=by
 obtain ⟨a1,c1,rfl,_,_⟩:=aW0 h1;obtain ⟨a2,c2,rfl,_,_⟩:=aW0 h2;have H1:Hid (w.ownsRow B1 41 5 (.slice a1 l.length c1) l.length (oV l)):=h1;have H2:Hid (w.ownsRow B2 41 5 (.slice a2 l.length c2) l.length (oV l)):=h2;clear h1 h2;go_enter Tryz.func27,Tryz.ntmps27;go_wp2_with fail;go_loopw [5] (fun v wx=>∃j:Nat,j≤l.length∧v=.int .i64 j∧Below w.heap.size w wx) (fun v _=>l.length - (intOf v).toNat)
 case atStart=>exact ⟨0,Nat.zero_le _,rfl,Below.refl _ _⟩
 case round=>
  obtain ⟨j,hj,rfl,hb6⟩:=hrel;have HB6:Hid (Below w.heap.size w wr):=hb6
  by_cases hjl:j<l.length
  ·obtain ⟨gv,cv',hev,k0,k1,k2,k3,k4⟩:=cD0 (cB0 H1.out hb6 lR7) hjl;obtain ⟨go,co',heo,d0,d1,d2,d3,d4⟩:=cD0 (cB0 H2.out hb6 lR7) hjl;simp only [Value.slice.injEq,true_and] at hev heo;obtain ⟨hev1,_⟩:=hev;obtain ⟨heo1,_⟩:=heo;subst hev1 heo1;have q2:(0:Int)≤(j:Int):=by omega
   have q3:(j:Int)<(l.length:Int):=by omega
   clear hb6;go_wp2_with fail;go_region;go_wp2_with fail;go_roundw
   case rel=>exact ⟨j+1,by omega,by go_num,by first | exact HB6.out.drew | exact below_drewN HB6.out _⟩
   case measure=>simp [intOf];omega
  ·have q3:¬(j:Int)<(l.length:Int):=by omega
   go_wp2_with fail;go_ret;exact ⟨rfl,HB6.out⟩
def gE0 (w:World) (a:Option Addr) (l:List Fil):Prop:=∀k,k<l.length→∃b off,a=some ⟨b,off,none⟩∧w.cell? ⟨b,off+k*4,none⟩=some (.int .i64 (fAt l k).buyer)∧w.cell? ⟨b,off+k*4+1,none⟩=some (.int .i64 (fAt l k).seller)∧w.cell? ⟨b,off+k*4+2,none⟩=some (.int .i64 (fAt l k).price)∧w.cell? ⟨b,off+k*4+3,none⟩=some (.int .i64 (fAt l k).qty)
theorem tB0 {w w':World} {p:Addr} {v:Value} (hb:Below w.heap.size w w') (h:w.cell? p=some v):w'.cell? p=some v:=(hb.cell (World.block_lt_of_cell? w _ h)).trans h
theorem gE0.below {w w':World} {a:Option Addr} {l:List Fil} (h:gE0 w a l) (hb:Below w.heap.size w w'):gE0 w' a l:=fun k hk=>by
 obtain ⟨b,off,e,h0,h1,h2,h3⟩:=h k hk;exact ⟨b,off,e,tB0 hb h0,tB0 hb h1,tB0 hb h2,tB0 hb h3⟩
theorem gE0.of_row {w:World} {base:Nat} {v:Value} {l:List Fil} (h:w.ownsRow base 115 4 v l.length (fV l)):∃a cap,v=.slice a l.length cap∧gE0 w a l:=by
 obtain ⟨a,cap,rfl,_,_⟩:=bB0 h;refine ⟨a,cap,rfl,fun k hk=>?_⟩;obtain ⟨g,cap',e,_,_⟩:=h.form (by omega);simp only [Value.slice.injEq,true_and] at e;obtain ⟨rfl,rfl⟩:=e;obtain ⟨h1,h2,h3,h4⟩:=tG1 hk;exact ⟨g,0,rfl,by simpa using (h.cellAt _ (by omega)).trans h1,by simpa using (h.cellAt _ (by omega)).trans h2,by simpa using (h.cellAt _ (by omega)).trans h3,by simpa using (h.cellAt _ (by omega)).trans h4⟩
set_option maxRecDepth 4000 in
set_option maxHeartbeats 4000000 in
theorem nO1 (a b:Option Addr) (ca cb:Nat) (l:List Fil) (w:World) (h:gE0 w a l) (h':gE0 w b l) (hl:l.length≤1000000000):
  Calls Tryz.prog 12 #[.slice a l.length ca,.slice b l.length cb] w fun e w'=>e=.returned (.bool true)∧Below w.heap.size w w':=by
 have HA:Hid (gE0 w a l):=h;have HB:Hid (gE0 w b l):=h';clear h h';go_enter Tryz.func12,Tryz.ntmps12;go_wp2_with fail;go_loopw [5] (fun i wr=>∃k:Nat,k≤l.length∧i=.int .i64 k∧Below w.heap.size w wr) (fun i _=>l.length - (intOf i).toNat)
 case atStart=>exact ⟨0,Nat.zero_le _,rfl,Below.refl _ _⟩
 case round=>
  obtain ⟨k,hk,rfl,hb⟩:=hrel;have HW:Hid (Below w.heap.size w wr):=hb
  by_cases hk1:k<l.length
  ·have q0:(0:Int)≤(k:Int):=by omega
   have hlt:(k:Int)<(l.length:Int):=by omega
   obtain ⟨g,off,rfl,d0,d1,d2,d3⟩:=HA.out.below hb k hk1;obtain ⟨g',off',rfl,e0,e1,e2,e3⟩:=HB.out.below hb k hk1;clear hb;generalize fAt l k=x at d0 d1 d2 d3 e0 e1 e2 e3;go_wp2_with fail;go_quiet (fail);go_wp2_with fail;go_roundw
   case rel=>exact ⟨k+1,hk1,by go_num,below_drewN HW.out _⟩
   case measure=>simp [intOf];omega
  ·obtain rfl:k=l.length:=by omega
   clear hb;go_wp2_with fail;go_ret;exact ⟨rfl,HW.out⟩
theorem lN0 {w w1:World} (hb:Below (w.heap.size+1) (w.alloc (.cells #[.int .i64 0,.int .i64 0] 34)) w1):
  w1.cell? ⟨w.heap.size,0,none⟩=some (.int .i64 0)∧w1.cell? ⟨w.heap.size,1,none⟩=some (.int .i64 0)∧w1.frozen? ⟨w.heap.size,0,none⟩=false∧w1.frozen? ⟨w.heap.size,1,none⟩=false∧Below w.heap.size w w1:=
 ⟨(hb.cell (p:=⟨w.heap.size,0,none⟩) (by simp)).trans (World.cell?_alloc_at _ _ _ _ rfl),(hb.cell (p:=⟨w.heap.size,1,none⟩) (by simp)).trans (World.cell?_alloc_at _ _ _ _ rfl),
  (hb.frozen (p:=⟨w.heap.size,0,none⟩) (by simp)).trans (by simp),(hb.frozen (p:=⟨w.heap.size,1,none⟩) (by simp)).trans (by simp),((Below.refl _ _).alloc lR7 _).trans (hb.mono (by omega))⟩
theorem lO0 {w:World} {B:Nat} {u v:Value} (c0:w.cell? ⟨B,0,none⟩=some u) (c1:w.cell? ⟨B,1,none⟩=some v) (x y:Value):
  (w.setCell ⟨B,0,none⟩ x).cell? ⟨B,0,none⟩=some x∧((w.setCell ⟨B,0,none⟩ x).setCell ⟨B,1,none⟩ y).cell? ⟨B,1,none⟩=some y:=
 ⟨World.cell?_setCell_same' _ _ _ (by rw [c0];rfl),World.cell?_setCell_same' _ _ _ (Option.isSome_iff_exists.2 ⟨v,(World.cell?_setCell_other (w:=w) (a:=⟨B,0,none⟩) (b:=⟨B,1,none⟩) (v:=x) (by simp)).trans c1⟩)⟩
theorem nO0 {w:World} {B:Nat} {u v:Value} (c0:w.cell? ⟨B,0,none⟩=some u) (c1:w.cell? ⟨B,1,none⟩=some v) (x y:Value) (o:Obj):
  (((w.setCell ⟨B,0,none⟩ x).setCell ⟨B,1,none⟩ y).alloc o).cell? ⟨B,0,none⟩=some x∧(((w.setCell ⟨B,0,none⟩ x).setCell ⟨B,1,none⟩ y).alloc o).cell? ⟨B,1,none⟩=some y:=by
 obtain ⟨g0,g1⟩:=lO0 c0 c1 x y;have hB:B<((w.setCell ⟨B,0,none⟩ x).setCell ⟨B,1,none⟩ y).heap.size:=mR0 (a:=⟨B,1,none⟩) g1;have h0:((w.setCell ⟨B,0,none⟩ x).setCell ⟨B,1,none⟩ y).cell? ⟨B,0,none⟩=some x:=(World.cell?_setCell_other (w:=w.setCell ⟨B,0,none⟩ x) (a:=⟨B,1,none⟩) (b:=⟨B,0,none⟩) (v:=y) (by simp)).trans g0;exact ⟨(World.cell?_alloc_lt _ _ ⟨B,0,none⟩ hB).trans h0,(World.cell?_alloc_lt _ _ ⟨B,1,none⟩ hB).trans g1⟩
theorem vV0 {w:World} {B:Nat} {u v:Value} (c0:w.cell? ⟨B,0,none⟩=some u) (c1:w.cell? ⟨B,1,none⟩=some v) (x y:Value) (o:Obj) (n:Nat):
  ((((w.alloc o).drewN n).setCell ⟨B,0,none⟩ x).cell? ⟨B,0,none⟩=some x∧((((w.alloc o).drewN n).setCell ⟨B,0,none⟩ x).setCell ⟨B,1,none⟩ y).cell? ⟨B,1,none⟩=some y):=by
 have hB:B<w.heap.size:=mR0 (a:=⟨B,0,none⟩) c0;have hb:Below w.heap.size w ((w.alloc o).drewN n):=below_drewN ((Below.refl _ _).alloc lR7 _) n;exact lO0 ((hb.cell (p:=⟨B,0,none⟩) hB).trans c0) ((hb.cell (p:=⟨B,1,none⟩) hB).trans c1) x y
theorem sU1 {x y:Int} (h:x=y):Value.int .i64 x=.int .i64 y:=by rw [h]
theorem sV1 {w:World} {t1 x y:Int} {t:TypeId} (h:x=y):w.alloc (.cells #[.int .i64 t1,.int .i64 x] t)=w.alloc (.cells #[.int .i64 t1,.int .i64 y] t):=by rw [h]
set_option maxHeartbeats 400000 in
theorem qE0 (a:Option Addr) (cap:Nat) (w:World):Calls Tryz.prog 37 #[.slice a 0 cap] w fun e w'=>e=.returned (.agg #[.int .i64 8,.int .i64 (-1)])∧Below w.heap.size w w':=by
 go_enter Tryz.func37,Tryz.ntmps37;go_wp2_with fail;refine (fQ0 8 _).mono ?_;rintro e w1 ⟨rfl,hb⟩;obtain ⟨c0,c1,f0,f1,hb1⟩:=lN0 (w:=w) (hb.mono (by simp));have HB:Hid (Below w.heap.size w w1):=hb1;clear hb hb1;obtain ⟨g0,g1⟩:=lO0 c0 c1 (.int .i64 8) (.int .i64 (-1));go_wp2;refine bodyPost_ret (by simp [results,Tryz.results37,go_sem,g0,g1];try rfl) rfl ?_;exact ⟨rfl,(HB.out.setCell lR7 _).setCell lR7 _⟩
set_option maxHeartbeats 400000 in
theorem tC0 (a:Option Addr) (n cap:Nat) (w:World) (hn:20<n) (hm:n≤60):Calls Tryz.prog 37 #[.slice a n cap] w fun e w'=>e=.returned (.agg #[.int .i64 4,.int .i64 (-1)])∧Below w.heap.size w w':=by
 go_enter Tryz.func37,Tryz.ntmps37;go_wp2_with fail;refine (fQ0 4 _).mono ?_;rintro e w1 ⟨rfl,hb⟩;obtain ⟨c0,c1,f0,f1,hb1⟩:=lN0 (w:=w) (hb.mono (by simp));have HB:Hid (Below w.heap.size w w1):=hb1;clear hb hb1;obtain ⟨g0,g1⟩:=lO0 c0 c1 (.int .i64 4) (.int .i64 (-1));go_wp2;refine bodyPost_ret (by simp [results,Tryz.results37,go_sem,g0,g1];try rfl) rfl ?_;exact ⟨rfl,(HB.out.setCell lR7 _).setCell lR7 _⟩
def okB (a ph:Int):Bool:=(a == 1&& ph == 2) || (a == 2&& ph == 3) || (a == 3&& (ph == 5 || ph == 7)) || (a == 5&& ph == 7)
theorem iE1 (a ph:Int):okB a ph=true↔(a=1∧ph=2)∨(a=2∧ph=3)∨(a=3∧(ph=5∨ph=7))∨(a=5∧ph=7):=by
 unfold okB;simp [or_assoc]
theorem tD0 (a ph:Int):hasB (folL a) ph=okB a ph:=by
 rw [Bool.eq_iff_iff,iE1];unfold folL;split
 ·simp [hasB];omega
 split
 ·simp [hasB];omega
 split
 ·simp [hasB];omega
 split
 ·simp [hasB];omega
 ·simp [hasB];omega
theorem sW1 {a ph:Int} {x:Bool} (h:x=true↔(a=1∧ph=2)∨(a=2∧ph=3)∨(a=3∧(ph=5∨ph=7))∨(a=5∧ph=7)):Value.bool x=.bool (okB a ph):=by
 rw [Bool.eq_iff_iff.2 (h.trans (iE1 a ph).symm)]
theorem iF1 {t0 a t1 ph:Int} (h:okB a ph=false):rowE (t0,a) (t1,ph)=1:=by
 unfold rowE hT0;rw [tD0,h];rfl
theorem qM1 {t0 a t1 ph:Int} (h:okB a ph=true) (h1:t1≤t0):rowE (t0,a) (t1,ph)=10:=by
 unfold rowE hT0;rw [tD0,if_pos h,if_pos h1]
theorem qN1 {t0 a t1 ph:Int} (h:okB a ph=true) (h1:t0<t1) (h2:1000000<t1):rowE (t0,a) (t1,ph)=2:=by
 unfold rowE hT0;rw [tD0,if_pos h,if_neg (by simp;omega),if_pos (by simpa using h2)]
theorem mC1 {t0 a t1 ph:Int} (h:okB a ph=true) (h1:t0<t1) (h2:t1≤1000000):rowE (t0,a) (t1,ph)=0:=by
 unfold rowE hT0;rw [tD0,if_pos h,if_neg (by simp;omega),if_neg (by simp;omega)]
theorem sX1 {a c:Int} (h:(a != c)=true):¬a=c:=by simpa using h
theorem qO1 {a c:Int} (h:(a != c)=false):a=c:=by simpa using h
theorem qP1 {a c x y:Int} (h:a=x) (h':c=y):(a,c)=(x,y):=by rw [h,h']
set_option maxRecDepth 4000 in
set_option maxHeartbeats 4000000 in
theorem vW0 (b cap:Nat) (rs:List (Int×Int)) (w:World) (h:bK0 w b 0 rs) (hne:0<rs.length) (hlen:rs.length≤20):
  Calls Tryz.prog 37 #[.slice (some ⟨b,0,none⟩) rs.length cap] w fun e w'=>e=.returned (.agg #[.int .i64 (tabE rs).1,.int .i64 (tabE rs).2])∧Below w.heap.size w w':=by
 have HR:Hid (bK0 (w.alloc (.cells #[.int .i64 0,.int .i64 0] 34)) b 0 rs):=h.below ((Below.refl _ _).alloc lR7 _) lR7;clear h;have hz:((rs.length:Int) == 0)=false:=beq_eq_false_iff_ne.2 (by omega);have hz2:decide (20<(rs.length:Int))=false:=by simp;omega
 go_enter Tryz.func37,Tryz.ntmps37;go_wp2_with fail;go_loopg [18] rs.length (fun g i wr=>∃k:Nat,k≤rs.length∧g=rs.length - k∧i=.int .i64 k∧Below (w.heap.size+1) (w.alloc (.cells #[.int .i64 0,.int .i64 0] 34)) wr∧(k=0∨∃m,k=m+1∧fH0 (bF0 rs m) (m+1) (rs.drop (m+1))=tabE rs))
 case atStart=>exact ⟨0,Nat.zero_le _,rfl,rfl,Below.refl _ _,Or.inl rfl⟩
 case round=>
  obtain ⟨k,hk,rfl,rfl,hb,hq⟩:=hrel;obtain ⟨a0,a1,f0,f1,hb1⟩:=lN0 hb;have HB:Hid (Below (w.heap.size+1) (w.alloc (.cells #[.int .i64 0,.int .i64 0] 34)) wr):=hb;have HB1:Hid (Below w.heap.size w wr):=hb1;have hr:=HR.out.below (n:=w.heap.size+1) hb (by simp);have hsz:w.heap.size<wr.heap.size:=by have:=hb.size;simp at this;omega
  clear hb hb1;rcases hq with rfl | ⟨m,rfl,hq⟩
  ·have hc0:=(hr.row hne).1;have hc1:=(hr.row hne).2;simp only [Nat.zero_mul,Nat.add_zero,Nat.zero_add] at hc0 hc1;clear hr;have g0:=fun o=>(nO0 a0 a1 (.int .i64 1) (.int .i64 0) o).1
   have g1:=fun o=>(nO0 a0 a1 (.int .i64 1) (.int .i64 0) o).2
   have HT:Hid (¬bF0 rs 0=(0,1)→tabE rs=(1,0)):=oO0 hne hlen;have HS:Hid (bF0 rs 0=(0,1)→tabE rs=fH0 (bF0 rs 0) 1 (rs.drop 1)):=zK0 hne hlen;generalize hr0:bF0 rs 0=r at hc0 hc1 HT;have HR0:Hid (bF0 rs 0=r):=hr0;clear hr0;obtain ⟨t1,ph⟩:=r;dsimp only at hc0 hc1;go_wp2_with fail
   ·refine bodyPost_ret (by simp [results,Tryz.results37,go_sem,g0,g1];try rfl) rfl ?_;have hT:=HT.out (fun e=>absurd (congrArg Prod.snd e) (sX1 (by assumption)));exact ⟨by rw [hT],((HB1.out.setCell lR7 _).setCell lR7 _).alloc (by simp;omega) _⟩
   ·go_roundg (rs.length - 1)
    case measure=>omega
    case rel=>exact ⟨1,hne,rfl,rfl,HB.out.alloc hsz _,Or.inr ⟨0,rfl,(HS.out (HR0.out.trans (qP1 (by assumption) (qO1 (by assumption))))).symm⟩⟩
   ·refine bodyPost_ret (by simp [results,Tryz.results37,go_sem,g0,g1];try rfl) rfl ?_;have hT:=HT.out (fun e=>absurd (congrArg Prod.fst e) (by assumption));exact ⟨by rw [hT],((HB1.out.setCell lR7 _).setCell lR7 _).alloc (by simp;omega) _⟩
  ·have H1:Hid (m+1<rs.length→rowE (bF0 rs m) (bF0 rs (m+1))=0→fH0 (bF0 rs (m+1)) (m+2) (rs.drop (m+2))=tabE rs):=fun hm he=>(uE0 hm he).symm.trans hq
   have H2:Hid (m+1<rs.length→¬rowE (bF0 rs m) (bF0 rs (m+1))=0→tabE rs=(rowE (bF0 rs m) (bF0 rs (m+1)),((m+1:Nat):Int))):=fun hm he=>hq.symm.trans (uF0 hm he)
   have H3:Hid (rs.length≤m+1→tabE rs=(0,-1)):=fun hm=>hq.symm.trans (zJ0 hm)
   obtain ⟨hc0,hc1⟩:=hr.row (k:=m) (by omega)
   by_cases hm:rs.length≤m+1
   ·clear hc0 hc1 hr hq;go_wp2_with fail;refine (fQ0 0 _).mono ?_;rintro e w2 ⟨rfl,hb2⟩;obtain ⟨c0,c1,f0',f1',hb3⟩:=lN0 (w:=w) (HB.out.trans (hb2.mono (by omega)));obtain ⟨g0,g1⟩:=lO0 c0 c1 (.int .i64 0) (.int .i64 (-1));have HB3:Hid (Below w.heap.size w w2):=hb3;clear hb2 hb3 a0 a1 f0 f1;go_wp2;refine bodyPost_ret (by simp [results,Tryz.results37,go_sem,g0,g1];try rfl) rfl ?_;have hT:=H3.out hm;exact ⟨by rw [hT],(HB3.out.setCell lR7 _).setCell lR7 _⟩
   have hm1:m+1<rs.length:=by omega
   obtain ⟨hd0,hd1⟩:=hr.row hm1;have hbl:b<wr.heap.size:=mR0 (a:=⟨b,0+m*2,none⟩) hc0;simp only [Nat.zero_add] at hc0 hc1 hd0 hd1;clear hr hq;generalize bF0 rs m=p at hc0 hc1 H1 H2;generalize hr1:bF0 rs (m+1)=r at hd0 hd1 H1 H2;have HRS:Hid (bF0 rs (m+1)=r):=hr1;clear hr1;obtain ⟨t0,a⟩:=p;obtain ⟨t1,ph⟩:=r;dsimp only at hc0 hc1 hd0 hd1;go_upto_region 13 with fail;go_cut [6,7] (fun pa ok wc=>pa=.int .i64 a∧ok=.bool (okB a ph)∧wc=wr.alloc (.cells #[.int .i64 t1,.int .i64 ph] 103))
   case first=>
    go_wp2_with fail
    all_goals go_meet
    all_goals exact ⟨sU1 (by omega),sW1 (by first | (simp;omega) | (constructor <;> intro <;> simp_all <;> omega)),sV1 (by omega)⟩
   case rest=>
    obtain ⟨rfl,rfl,rfl⟩:=hcut;cases hok:okB a ph with
    | false=>
     have g0:=fun o=>(nO0 a0 a1 (.int .i64 1) (.int .i64 ((m:Int)+1)) o).1
     have g1:=fun o=>(nO0 a0 a1 (.int .i64 1) (.int .i64 ((m:Int)+1)) o).2
     go_wp2_with fail;refine bodyPost_ret (by simp [results,Tryz.results37,go_sem,g0,g1];try rfl) rfl ?_;have hT:=H2.out hm1 (by rw [iF1 hok];decide);rw [iF1 hok] at hT;exact ⟨by rw [hT];rfl,((HB1.out.setCell lR7 _).setCell lR7 _).alloc (by simp;omega) _⟩
    | true=>
     go_wp2_with fail;go_quiet (fail);go_wp2_with fail
     ·obtain ⟨g0,g1⟩:=vV0 a0 a1 (.int .i64 10) (.int .i64 ((m:Int)+1)) (.cells #[.int .i64 t1,.int .i64 ph] 103) nq;refine bodyPost_ret (by simp [results,Tryz.results37,go_sem,g0,g1];try rfl) rfl ?_;have hE:rowE (t0,a) (t1,ph)=10:=qM1 hok (by assumption);have hT:=H2.out hm1 (by rw [hE];decide);rw [hE] at hT;exact ⟨by rw [hT];rfl,((below_drewN (HB1.out.alloc HB1.out.size _) _).setCell lR7 _).setCell lR7 _⟩
     ·obtain ⟨g0,g1⟩:=vV0 a0 a1 (.int .i64 2) (.int .i64 ((m:Int)+1)) (.cells #[.int .i64 t1,.int .i64 ph] 103) nq;refine bodyPost_ret (by simp [results,Tryz.results37,go_sem,g0,g1];try rfl) rfl ?_;have hE:rowE (t0,a) (t1,ph)=2:=qN1 hok (by assumption) (by assumption);have hT:=H2.out hm1 (by rw [hE];decide);rw [hE] at hT;exact ⟨by rw [hT];rfl,((below_drewN (HB1.out.alloc HB1.out.size _) _).setCell lR7 _).setCell lR7 _⟩
     ·go_roundg (rs.length - (m+2))
      case measure=>omega
      case rel=>exact ⟨m+2,by omega,rfl,by go_num,below_drewN (HB.out.alloc hsz _) _,Or.inr ⟨m+1,rfl,by rw [HRS.out];exact H1.out hm1 (mC1 hok (by assumption) (by assumption))⟩⟩
theorem mD1 (b cap:Nat) (rs:List (Int×Int)) (w:World) (h:bK0 w b 0 rs) (hne:0<rs.length) (hlen:rs.length≤60):
  Calls Tryz.prog 37 #[.slice (some ⟨b,0,none⟩) rs.length cap] w fun e w'=>e=.returned (.agg #[.int .i64 (tabE rs).1,.int .i64 (tabE rs).2])∧Below w.heap.size w w':=by
 by_cases h20:20<rs.length
 ·rw [sE0 h20];exact tC0 _ _ cap w h20 hlen
 ·exact vW0 b cap rs w h hne (by omega)
theorem sY1 {w:World} {rs:List (Int×Int)} {err:Value} (h:((tabE rs).2=-1∧err=.iface 32 (.int .i64 (tabE rs).1))∨∃b:Nat,err=.iface 140 (.pointer (some ⟨b,0,none⟩))∧w.cell? ⟨b,0,none⟩=some (.int .i64 (tabE rs).1)∧w.cell? ⟨b,1,none⟩=some (.int .i64 (tabE rs).2)):
  kG0 w err (tabE rs).1 (tabE rs).2:=by
 rcases h with ⟨h1,h2⟩ | ⟨b,h1,h2,h3⟩
 ·exact Or.inr (Or.inl ⟨h2,h1⟩)
 ·exact Or.inr (Or.inr ⟨b,0,h1,h2,h3⟩)
def kA0 (ti mo:Int):Bool:=decide (1≤ti)&& decide (ti≤1000000)&& (decide (0≤mo)&& decide (mo≤10))
def newE (rs:List (Int×Int)) (st dy p ti mo:Int):Int×Int:=if (tabE rs).1≠0 then tabE rs else if jS0 st dy p=true∧kA0 ti mo=true then (0,-1) else (2,-1)
def qQ1 (w:World) (rs:List (Int×Int)) (st dy p ti mo:Int) (e:Ending) (w':World):Prop:=∃err,e=.returned (.tuple #[.pointer none,err])∧kG0 w' err (newE rs st dy p ti mo).1 (newE rs st dy p ti mo).2∧Below w.heap.size w w'
theorem mV0 {w w':World} {rs:List (Int×Int)} {st dy p ti mo:Int} {err:Value} (h:kG0 w' err (newE rs st dy p ti mo).1 (newE rs st dy p ti mo).2) (hb:Below w.heap.size w w'):qQ1 w rs st dy p ti mo (.returned (.tuple #[.pointer none,err])) w':=⟨err,rfl,h,hb⟩
set_option maxRecDepth 8000 in
set_option maxHeartbeats 4000000 in
theorem cT1 (a:Option Addr) (cap:Nat) (st dy p ti mo:Int) (w:World):
  Calls Tryz.prog 5 #[.agg #[.slice a 0 cap,.int .i64 st,.int .i64 dy,.int .i64 p,.int .i64 ti,.int .i64 mo]] w fun e w'=>qQ1 w [] st dy p ti mo e w':=by
 go_enter Tryz.func5,Tryz.ntmps5;go_upto_region 1 with fail;have hx:=heap_alloc_new w (.cells #[.slice a 0 cap,.int .i64 st,.int .i64 dy,.int .i64 p,.int .i64 ti,.int .i64 mo] 24);have hb:=bel1 w (.cells #[.slice a 0 cap,.int .i64 st,.int .i64 dy,.int .i64 p,.int .i64 ti,.int .i64 mo] 24);generalize w.alloc (.cells #[.slice a 0 cap,.int .i64 st,.int .i64 dy,.int .i64 p,.int .i64 ti,.int .i64 mo] 24)=w1 at hx hb ⊢;have c0:w1.cell? ⟨w.heap.size,0,none⟩=some (.slice a 0 cap):=aA0 (j:=0) hx rfl;have HB:Hid (Below w.heap.size w w1):=hb;clear hx hb;go_wp2_with fail;refine (eH1 a cap w1).mono ?_;rintro e w2 ⟨rfl,hw⟩;subst hw;go_wp2_with fail;go_ret2;exact mV0 (Or.inr (Or.inl ⟨rfl,rfl⟩)) HB.out
set_option maxRecDepth 8000 in
set_option maxHeartbeats 4000000 in
theorem mE1 (tb0 off cap:Nat) (rs:List (Int×Int)) (st dy p ti mo:Int) (w:World) (h:bK0 w tb0 off rs) (hwf:hU0 rs) (hne:0<rs.length) (hlen:rs.length≤60) (hno:(newE rs st dy p ti mo).1≠0):
  Calls Tryz.prog 5 #[.agg #[.slice (some ⟨tb0,off,none⟩) rs.length cap,.int .i64 st,.int .i64 dy,.int .i64 p,.int .i64 ti,.int .i64 mo]] w fun e w'=>qQ1 w rs st dy p ti mo e w':=by
 have HR:Hid (bK0 w tb0 off rs):=h;have HW:Hid (hU0 rs):=hwf;have HNO:Hid ((newE rs st dy p ti mo).1≠0):=hno;clear h hwf hno;go_enter Tryz.func5,Tryz.ntmps5;go_upto_region 1 with fail;have hx:=heap_alloc_new w (.cells #[.slice (some ⟨tb0,off,none⟩) rs.length cap,.int .i64 st,.int .i64 dy,.int .i64 p,.int .i64 ti,.int .i64 mo] 24);have hb:=bel1 w (.cells #[.slice (some ⟨tb0,off,none⟩) rs.length cap,.int .i64 st,.int .i64 dy,.int .i64 p,.int .i64 ti,.int .i64 mo] 24);generalize w.alloc (.cells #[.slice (some ⟨tb0,off,none⟩) rs.length cap,.int .i64 st,.int .i64 dy,.int .i64 p,.int .i64 ti,.int .i64 mo] 24)=w1 at hx hb ⊢;have c0:w1.cell? ⟨w.heap.size,0,none⟩=some (.slice (some ⟨tb0,off,none⟩) rs.length cap):=aA0 (j:=0) hx rfl;have HX:Hid _:=hx;have HB:Hid (Below w.heap.size w w1):=hb;clear hx hb;go_wp2_with fail;refine (eK1 tb0 off cap rs w1 (HR.out.below HB.out lR7) HW.out hne hlen).mono ?_;rintro e w2 ⟨t,err,rfl,hN,hb2⟩;have HB2:Hid (Below w.heap.size w w2):=aD0 HB.out hb2;rcases hN with ⟨ht,rfl,tb,rfl,cb,ct,ht1,ht2⟩ | ⟨h0,rfl,he⟩
 ·have hx2:=aC0 HX.out hb2 lR7;have c1:w2.cell? ⟨w.heap.size,1,none⟩=some (.int .i64 st):=aA0 (j:=1) hx2 rfl;have c2:w2.cell? ⟨w.heap.size,2,none⟩=some (.int .i64 dy):=aA0 (j:=2) hx2 rfl;have c3:w2.cell? ⟨w.heap.size,3,none⟩=some (.int .i64 p):=aA0 (j:=3) hx2 rfl;have HX2:Hid _:=hx2
  have HE:Hid (newE rs st dy p ti mo=if jS0 st dy p=true∧kA0 ti mo=true then (0,-1) else (2,-1)):=by
   show _=_;unfold newE;rw [if_neg (by rw [ht];decide)]
  clear hb2 hx2 ht1 ht2 c0 ht;go_wp2_with fail;cases hok:jS0 st dy p with
  | false=>
   have HE2:Hid (newE rs st dy p ti mo=(2,-1)):=by show _=_;rw [HE.out,if_neg (by rw [hok];rintro ⟨e,_⟩;cases e)]
   refine (jG1 st dy p w2 hok).mono ?_;rintro e w3 ⟨rfl,hb3⟩;have HB3:Hid (Below w.heap.size w w3):=aD0 HB2.out hb3;clear hb3 hok;go_wp2_with fail;go_ret2;exact mV0 (by rw [HE2.out];exact Or.inr (Or.inl ⟨rfl,rfl⟩)) HB3.out
  | true=>
   have HT:Hid (kA0 ti mo=false):=by
    show _=_;cases ht:kA0 ti mo with
    | false=>rfl
    | true=>exact absurd (by rw [HE.out,if_pos ⟨hok,ht⟩]) HNO.out
   have HE2:Hid (newE rs st dy p ti mo=(2,-1)):=by show _=_;rw [HE.out,if_neg (by rw [HT.out];rintro ⟨_,e⟩;cases e)]
   refine (zI0 st dy p w2 hok).mono ?_;rintro e w3 ⟨rfl,hb3,_⟩;have hx3:=aC0 HX2.out hb3 lR7;have HB3:Hid (Below w.heap.size w w3):=aD0 HB2.out hb3;have d4:w3.cell? ⟨w.heap.size,4,none⟩=some (.int .i64 ti):=aA0 (j:=4) hx3 rfl;have d5:w3.cell? ⟨w.heap.size,5,none⟩=some (.int .i64 mo):=aA0 (j:=5) hx3 rfl;clear hb3 hx3 c1 c2 c3 hok
   have hbad:ti<1∨1000000<ti∨mo<0∨10<mo:=by
    have h:=HT.out;unfold kA0 at h
    by_cases g1:ti<1
    ·exact Or.inl g1
    by_cases g2:1000000<ti
    ·exact Or.inr (Or.inl g2)
    by_cases g3:mo<0
    ·exact Or.inr (Or.inr (Or.inl g3))
    by_cases g4:10<mo
    ·exact Or.inr (Or.inr (Or.inr g4))
    rw [decide_eq_true (show (1:Int)≤ti by omega),decide_eq_true (show ti≤1000000 by omega),decide_eq_true (show (0:Int)≤mo by omega),decide_eq_true (show mo≤10 by omega)] at h;cases h
   by_cases g1:ti<1
   ·go_wp2_with fail;go_ret2;exact mV0 (by rw [HE2.out];exact Or.inr (Or.inl ⟨rfl,rfl⟩)) HB3.out
   by_cases g2:ti>1000000
   ·go_wp2_with fail;go_ret2;exact mV0 (by rw [HE2.out];exact Or.inr (Or.inl ⟨rfl,rfl⟩)) HB3.out
   by_cases g3:mo<0
   ·go_wp2_with fail;go_ret2;exact mV0 (by rw [HE2.out];exact Or.inr (Or.inl ⟨rfl,rfl⟩)) HB3.out
   have g4:mo>10:=by omega
   clear hbad;go_wp2_with fail;go_ret2;exact mV0 (by rw [HE2.out];exact Or.inr (Or.inl ⟨rfl,rfl⟩)) HB3.out
 ·have HE:Hid (newE rs st dy p ti mo=tabE rs):=by
   show _=_;unfold newE;rw [if_pos h0]
  have HER:Hid (kG0 w2 err (tabE rs).1 (tabE rs).2):=sY1 he
  have hnn:err≠.nilIface:=by
   rcases he with ⟨_,e⟩ | ⟨b,e,_⟩
   ·rw [e];intro h;cases h
   ·rw [e];intro h;cases h
  rcases he with ⟨_,rfl⟩ | ⟨b,rfl,_⟩
  ·clear hb2 h0 hnn;go_wp2_with fail;go_ret2;exact mV0 (by rw [HE.out];exact HER.out) HB2.out
  ·clear hb2 h0 hnn;go_wp2_with fail;go_ret2;exact mV0 (by rw [HE.out];exact HER.out) HB2.out
end Go.Proofs.YtjdkagafdnchhaaGreatDoor
