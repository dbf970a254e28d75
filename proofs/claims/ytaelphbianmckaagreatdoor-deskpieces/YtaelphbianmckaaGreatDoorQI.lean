/- DeskPieces: a part of the proof, packed (the readable form: the templates). -/
import Derived.Test.YtaelphbianmckaaGreatDoorQH
import Derived.BigRegion
import Derived.Sort.OwnSortedInts
import Derived.Maps.AppendAt
import Derived.Deep.Onto
import Derived.Deep.RegionHeld3
import Derived.Test.YtaelphbianmckaaGreatDoorQA
import Derived.Defers
import Derived.Recover
import Derived.Shelf.Abstract
import Derived.Test.YtaelphbianmckaaGreatDoorQF
namespace Go.Proofs.YtaelphbianmckaaGreatDoor
open Go.RowKit Go.Maps
def eA1 (v:Value):Option (DataW Unit×List MemPlace):=
 match v with
 | .agg ⟨[]⟩=>some (.agg [],[])
 | _=>none
theorem eB1 {v:Value} {d:DataW Unit} {ps:List MemPlace} (h:eA1 v=some (d,ps)):v=.agg #[]:=by
 unfold eA1 at h;split at h
 ·rfl
 ·cases h
theorem Tryz.zeroUnit (w:World):(zeroValue 236).run Tryz.prog w=.ok (.agg #[]) w:=by kernel_rfl
def iJ0 (w:World) (mb n:Nat) (I:List Int):Prop:=∃D:DataW Unit,w.ownsMap Tryz.prog 3 eA1 mb n D∧∀id:Int,Maps.has D (.int .i64 id)=decide (id∈I)
section
variable {w w':World} {mb n:Nat} {I:List Int}
theorem iJ0.same (h:iJ0 w mb n I) (hb:w'.heap[mb]? = w.heap[mb]?):iJ0 w' mb n I:=by
 obtain ⟨D,h1,r⟩:=h;exact ⟨D,qZ0 h1 hb,r⟩
theorem iJ0.lt (h:iJ0 w mb n I):mb<w.heap.size:=by
 obtain ⟨D,h1,r⟩:=h;exact h1.lt
theorem iJ0.ne {b:Nat} {vs:Array Value} {t:TypeId} {f:Nat×Nat} (h:iJ0 w mb n I) (hb:w.heap[b]? = some (.cells vs t f)):b≠mb:=fun e=>by
 obtain ⟨D,⟨es,clock,h1,_⟩,_⟩:=h;rw [e,h1] at hb;cases hb
theorem iJ0.look (h:iJ0 w mb n I) {id:Int} (hw:(Lit.int .i64 id).wf=true):
  (Instr.lookup 163 (.map (some mb)) (.int .i64 id) true).run Tryz.prog w=.ok (.tuple #[.agg #[],.bool (decide (id∈I))]) w:=by
 obtain ⟨D,h1,h2⟩:=h;obtain ⟨v,ps,hr,hv⟩:=h1.look_ok Tryz.keyI Tryz.underlying163 (Tryz.zeroUnit w) (zd:=.agg []) (zp:=[]) rfl (Tryz.keyAt hw);rw [hr,eB1 hv,h2 id]
theorem iJ0.put (h:iJ0 w mb n I) {id:Int} (hw:(Lit.int .i64 id).wf=true) (hn:n<1000000):
  ∃w',(Instr.mapUpdate 163 (.map (some mb)) (.int .i64 id) (.agg #[])).run Tryz.prog w=.ok () w'∧iJ0 w' mb (n+1) (I++[id])∧Out (fun j=>j=mb) w w':=by
 obtain ⟨D,h1,h2⟩:=h;obtain ⟨w',hr,h4,h5⟩:=h1.store Tryz.keyI Tryz.underlying163 (by unfold maxLen;omega) (Tryz.keyAt hw) (show eA1 (.agg #[])=some (.agg [],[]) from rfl);refine ⟨w',hr,⟨_,h4,fun x=>?_⟩,lB0 h5⟩
 by_cases e:x=id
 ·subst e;rw [Maps.has_put_same h1.isMap (nN1 _) _];simp
 ·have hne:Lit.int .i64 x≠Lit.int .i64 id:=fun e'=>e (nJ0 e')
  rw [Maps.has_put_other hne,h2 x];simp [e]
end
structure EgK where
 tb:Nat
 cb:Nat
 ct:Nat
 nb:Nat
 bb:Nat
 m:Nat
 b:BkS
 vp:Value
 tk:Nat
 n:Nat
def EgK.foot (eb:Nat) (k:EgK) (j:Nat):Prop:=j=eb∨j=k.nb∨k.b.foot k.bb j∨k.vp.ownBlock=some j∨j=k.tk
def egV (k:EgK) (M:Mkt):Array Value:=#[.pointer (some ⟨k.tb,0,none⟩),.pointer (some ⟨k.nb,0,none⟩),.pointer (some ⟨k.bb,0,none⟩),k.vp,.map (some k.tk),.int .i64 M.ph,.int .i64 M.now,.int .i64 M.ti,.int .i64 M.mo,.int .i64 M.en,.int .i64 M.lo]
structure Eg (w:World) (eb:Nat) (k:EgK) (M:Mkt):Prop where
 box:w.heap[eb]? = some (.cells (egV k M) 165 (0,0))
 tab:w.cell? ⟨k.tb,0,none⟩=some (.slice (some ⟨k.cb,0,none⟩) M.rs.length k.ct)∧cI0 w k.cb 0 M.rs
 tlt:k.cb<w.heap.size
 bn:BnAt w k.nb M.st M.dy M.an M.la
 bk:Bk w k.bb k.m k.b
 lnk:Lnk k.b.S M.L
 pk:w.ownsRow 0 92 5 k.vp M.P.length (oV M.P)
 tkn:iJ0 w k.tk k.n M.I
 tkf:¬k.b.foot k.bb k.tk
 few:k.n≤k.m
 far:∀j,j=k.tb∨j=k.cb→¬k.foot eb j
theorem bR0 {S:Nat→Prop} {w w':World} {b off:Nat} {rs:List (Int×Int)} (h:cI0 w b off rs) (ho:Out S w w') (hS:¬S b):cI0 w' b off rs:=fun j u hj=>by
 have h1:=h j u hj;have hlt:b<w.heap.size:=World.block_lt_of_cell? w _ h1;have e:=ho.block b hlt hS;rw [←h1];simp only [World.cell?,e]
theorem bH0 {S:Nat→Prop} {w w':World} {a:Addr} {v:Value} (h:w.cell? a=some v) (ho:Out S w w') (hS:¬S a.block):w'.cell? a=some v:=by
 have e:=ho.block a.block (World.block_lt_of_cell? w _ h) hS;rw [←h];simp only [World.cell?,e]
section
variable {w w':World} {eb:Nat} {k:EgK} {M:Mkt}
theorem Eg.tlt' (h:Eg w eb k M):k.tb<w.heap.size:=World.block_lt_of_cell? w _ h.tab.1
theorem Eg.table (h:Eg w eb k M):lK0 w k.tb M.rs:=⟨k.cb,k.ct,h.tab.1,h.tab.2⟩
theorem Eg.out {S:Nat→Prop} (h:Eg w eb k M) (ho:Out S w w') (hS:∀j,k.foot eb j∨j=k.tb∨j=k.cb→¬S j):Eg w' eb k M:=
 ⟨aE0 h.box ho (hS _ (Or.inl (Or.inl rfl))),⟨bH0 h.tab.1 ho (hS _ (Or.inr (Or.inl rfl))),bR0 h.tab.2 ho (hS _ (Or.inr (Or.inr rfl)))⟩,Nat.lt_of_lt_of_le h.tlt ho.size,
  aE0 h.bn ho (hS _ (Or.inl (Or.inr (Or.inl rfl)))),h.bk.out ho (fun _ hj=>hS _ (Or.inl (Or.inr (Or.inr (Or.inl hj))))),h.lnk,aL0 h.pk ho (fun _ hj=>hS _ (Or.inl (Or.inr (Or.inr (Or.inr (Or.inl hj)))))),
  h.tkn.same (ho.block _ h.tkn.lt (hS _ (Or.inl (Or.inr (Or.inr (Or.inr (Or.inr rfl))))))),h.tkf,h.few,h.far⟩
theorem Eg.below (h:Eg w eb k M) (hb:Below w.heap.size w w'):Eg w' eb k M:=h.out (S:=fun _=>False) (Out.of_below hb lR7) (fun _ _ e=>e)
theorem Eg.drew (h:Eg w eb k M):Eg w.drew eb k M:=h.below (Below.refl _ _).drew
theorem Eg.few100 (h:Eg w eb k M):M.L.length≤100:=rO0 h.bk.ok h.lnk
theorem Eg.lok (h:Eg w eb k M):LOk M.L:=by
 refine ⟨fun o ho=>?_,h.lnk.ids,fun o ho=>h.lnk.ok h.bk.ok o ho⟩;obtain ⟨s,hs,x,hx,rfl⟩:=h.lnk.mem.1 ho;have:=h.bk.ok.side s hs x hx;omega
theorem Eg.ebnb (h:Eg w eb k M):eb≠k.nb:=dV0 h.box h.bn (by decide)
theorem Eg.ebbk (h:Eg w eb k M):¬k.b.foot k.bb eb:=h.bk.farBox h.box (by decide) (by decide) (by decide) (by decide) (by decide)
theorem Eg.nbbk (h:Eg w eb k M):¬k.b.foot k.bb k.nb:=h.bk.farBox h.bn (by decide) (by decide) (by decide) (by decide) (by decide)
theorem Eg.ebpk (h:Eg w eb k M):k.vp.ownBlock≠some eb:=aF0 h.pk h.box (by decide)
theorem Eg.nbpk (h:Eg w eb k M):k.vp.ownBlock≠some k.nb:=aF0 h.pk h.bn (by decide)
theorem Eg.pkbk (h:Eg w eb k M) {j:Nat} (hj:k.vp.ownBlock=some j):¬k.b.foot k.bb j:=fun e=>h.bk.farAny h.pk (by decide) (by decide) (by decide) (by decide) (by decide) j hj e
theorem Eg.ebtk (h:Eg w eb k M):eb≠k.tk:=h.tkn.ne h.box
theorem Eg.nbtk (h:Eg w eb k M):k.nb≠k.tk:=h.tkn.ne h.bn
theorem Eg.pktk (h:Eg w eb k M):k.vp.ownBlock≠some k.tk:=fun hv=>by
 rcases h.pk.2 with ⟨e,_⟩ | ⟨g,cap,cur,e,_,hh,_⟩
 ·rw [e] at hv;cases hv
 ·rw [e] at hv;have e':g=k.tk:=by simpa [Value.ownBlock] using hv
  exact h.tkn.ne hh e'
def EgGo (w w':World) (eb:Nat) (k k':EgK) (M':Mkt):Prop:=Eg w' eb k' M'∧Out (k.foot eb) w w'∧Went w (k.foot eb) (k'.foot eb)∧k'.tb=k.tb∧k'.cb=k.cb
theorem EgGo.stay (h:Eg w eb k M) (hb:Below w.heap.size w w'):EgGo w w' eb k k M:=⟨h.below hb,Out.of_below hb lR7,Went.refl _ _,rfl,rfl⟩
theorem EgGo.refl (h:Eg w eb k M):EgGo w w eb k k M:=⟨h,Out.refl _ _,Went.refl _ _,rfl,rfl⟩
theorem EgGo.trans {w1 w2:World} {k1 k2:EgK} {M1 M2:Mkt} (h:EgGo w w1 eb k k1 M1) (h1:EgGo w1 w2 eb k1 k2 M2):EgGo w w2 eb k k2 M2:=⟨h1.1,h.2.1.trans h1.2.1 h.2.2.1,h.2.2.1.trans h1.2.2.1 h.2.1.size,h1.2.2.2.1.trans h.2.2.2.1,h1.2.2.2.2.trans h.2.2.2.2⟩
theorem EgGo.bel {w1 w2:World} {k1:EgK} {M1:Mkt} (h:EgGo w w1 eb k k1 M1) (h1:Below w1.heap.size w1 w2):EgGo w w2 eb k k1 M1:=h.trans (EgGo.stay h.1 h1)
theorem Eg.write (h:Eg w eb k M) {M':Mkt} {j:Nat} {u:Value} (he:(egV k M).setIfInBounds j u=egV k M') (h1:M'.rs=M.rs) (h2:M'.L=M.L) (h3:M'.P=M.P) (h4:M'.I=M.I) (h5:M'.st=M.st∧M'.dy=M.dy∧M'.an=M.an∧M'.la=M.la):
  EgGo w (w.setCell ⟨eb,j,none⟩ u) eb k k M':=by
 have ho:=aN0 w ⟨eb,j,none⟩ u;have hb:=aH0 (j:=j) u h.box;rw [he] at hb;obtain ⟨e1,e2,e3,e4⟩:=h5;refine ⟨⟨hb,?_,Nat.lt_of_lt_of_le h.tlt ho.size,?_,h.bk.out ho (fun i hi e=>h.ebbk (by rw [←show i=eb from e];exact hi)),by rw [h2];exact h.lnk,?_,?_,h.tkf,h.few,h.far⟩,?_,Went.refl _ _,rfl,rfl⟩
 ·rw [h1];exact ⟨bH0 h.tab.1 ho (fun e=>h.far _ (Or.inl rfl) (Or.inl e)),bR0 h.tab.2 ho (fun e=>h.far _ (Or.inr rfl) (Or.inl e))⟩
 ·rw [e1,e2,e3,e4];exact aE0 h.bn ho (fun e=>h.ebnb e.symm)
 ·rw [h3];exact aL0 h.pk ho (fun i hi e=>h.ebpk (by rw [←show i=eb from e];exact hi))
 ·rw [h4];exact h.tkn.same (ho.block _ h.tkn.lt (fun e=>h.ebtk e.symm))
 ·exact ⟨ho.os,ho.tape,ho.output,ho.size,fun i hi hn=>ho.block i hi (fun e=>hn (Or.inl e))⟩
theorem Eg.ofBook (h:Eg w eb k M) {m':Nat} {b':BkS} {L':List Ord} (hg:Goes w w' k.bb m' k.b b') (hl:Lnk b'.S L') (hm:k.m≤m'):EgGo w w' eb k { k with m:=m',b:=b' } { M with L:=L' }:=by
 obtain ⟨g1,g2,g3⟩:=hg;refine ⟨⟨aE0 h.box g2 h.ebbk,⟨bH0 h.tab.1 g2 (fun e=>h.far _ (Or.inl rfl) (Or.inr (Or.inr (Or.inl e)))),bR0 h.tab.2 g2 (fun e=>h.far _ (Or.inr rfl) (Or.inr (Or.inr (Or.inl e))))⟩,Nat.lt_of_lt_of_le h.tlt g2.size,aE0 h.bn g2 h.nbbk,g1,hl,aL0 h.pk g2 (fun j hj=>h.pkbk hj),h.tkn.same (g2.block _ h.tkn.lt h.tkf),fun e=>?_,Nat.le_trans h.few hm,fun j hj e=>?_⟩,?_,?_,rfl,rfl⟩
 ·rcases g3 _ e with e | e
  ·exact h.tkf e
  ·have e':w.heap.size≤k.tk:=e;have:=h.tkn.lt;omega
 ·have hlt:j<w.heap.size:=by
   rcases hj with rfl | rfl
   ·exact h.tlt'
   ·exact h.tlt
  rcases e with e | e | e | e | e
  ·exact h.far j hj (Or.inl e)
  ·exact h.far j hj (Or.inr (Or.inl e))
  ·rcases g3 j e with e | e
   ·exact h.far j hj (Or.inr (Or.inr (Or.inl e)))
   ·omega
  ·exact h.far j hj (Or.inr (Or.inr (Or.inr (Or.inl e))))
  ·exact h.far j hj (Or.inr (Or.inr (Or.inr (Or.inr e))))
 ·exact ⟨g2.os,g2.tape,g2.output,g2.size,fun i hi hn=>g2.block i hi (fun e=>hn (Or.inr (Or.inr (Or.inl e))))⟩
 ·intro j hj;rcases hj with e | e | e | e | e
  ·exact Or.inl (Or.inl e)
  ·exact Or.inl (Or.inr (Or.inl e))
  ·exact (g3 j e).imp (fun e=>Or.inr (Or.inr (Or.inl e))) id
  ·exact Or.inl (Or.inr (Or.inr (Or.inr (Or.inl e))))
  ·exact Or.inl (Or.inr (Or.inr (Or.inr (Or.inr e))))
theorem Eg.ofBands (h:Eg w eb k M) {an' la':Int} (hb:BnAt w' k.nb M.st M.dy an' la') (ho:Out (fun j=>j=k.nb) w w'):EgGo w w' eb k k { M with an:=an',la:=la' }:=by
 refine ⟨⟨aE0 h.box ho h.ebnb,⟨bH0 h.tab.1 ho (fun e=>h.far _ (Or.inl rfl) (Or.inr (Or.inl e))),bR0 h.tab.2 ho (fun e=>h.far _ (Or.inr rfl) (Or.inr (Or.inl e)))⟩,Nat.lt_of_lt_of_le h.tlt ho.size,hb,h.bk.out ho (fun j hj e=>h.nbbk (by rw [←show j=k.nb from e];exact hj)),h.lnk,aL0 h.pk ho (fun j hj e=>h.nbpk (by rw [←show j=k.nb from e];exact hj)),h.tkn.same (ho.block _ h.tkn.lt (fun e=>h.nbtk e.symm)),h.tkf,h.few,h.far⟩,?_,Went.refl _ _,rfl,rfl⟩;exact ⟨ho.os,ho.tape,ho.output,ho.size,fun i hi hn=>ho.block i hi (fun e=>hn (Or.inr (Or.inl e)))⟩
theorem Eg.ofTaken (h:Eg w eb k M) {id:Int} (ht:iJ0 w' k.tk (k.n+1) (M.I++[id])) (ho:Out (fun j=>j=k.tk) w w') (hm:k.m+1≤900000):EgGo w w' eb k { k with m:=k.m+1,n:=k.n+1 } { M with I:=M.I++[id] }:=by
 refine ⟨⟨aE0 h.box ho h.ebtk,⟨bH0 h.tab.1 ho (fun e=>h.far _ (Or.inl rfl) (Or.inr (Or.inr (Or.inr (Or.inr e))))),bR0 h.tab.2 ho (fun e=>h.far _ (Or.inr rfl) (Or.inr (Or.inr (Or.inr (Or.inr e)))))⟩,Nat.lt_of_lt_of_le h.tlt ho.size,aE0 h.bn ho h.nbtk,(h.bk.out ho (fun j hj e=>h.tkf (by rw [←show j=k.tk from e];exact hj))).more (Nat.le_succ _) hm,h.lnk,aL0 h.pk ho (fun j hj e=>h.pktk (by rw [←show j=k.tk from e];exact hj)),ht,h.tkf,Nat.succ_le_succ h.few,h.far⟩,?_,Went.refl _ _,rfl,rfl⟩;exact ⟨ho.os,ho.tape,ho.output,ho.size,fun i hi hn=>ho.block i hi (fun e=>hn (Or.inr (Or.inr (Or.inr (Or.inr e)))))⟩
end
end Go.Proofs.YtaelphbianmckaaGreatDoor
namespace Go.Proofs.YtaelphbianmckaaGreatDoor
open Go.RowKit
set_option linter.unusedSimpArgs false
def ErrE (err:Value) (n:Int):Prop:=(err=.nilIface∧n=0)∨(err=.iface 26 (.int .i64 n)∧n≠0)
theorem ErrE.yes {n:Int} (h:n=0):ErrE .nilIface n:=Or.inl ⟨rfl,h⟩
theorem ErrE.no {n:Int} (v:Int) (h:n=v) (hv:v≠0):ErrE (.iface 26 (.int .i64 v)) n:=Or.inr ⟨by rw [h],by rw [h];exact hv⟩
theorem oK1 (eb:Nat) (k:EgK) (M:Mkt) (w:World) (h:Eg w eb k M):
  Calls Tryz.prog 75 #[.pointer (some ⟨eb,0,none⟩)] w fun e w'=>e=.returned (.int .i64 M.ph)∧w'=w:=by
 have c5:w.cell? ⟨eb,5,none⟩=some (.int .i64 M.ph):=aA0 (j:=5) h.box rfl;clear h;go_enter Tryz.func75,Tryz.ntmps75;go_wp2;go_ret;exact ⟨rfl,rfl⟩
theorem tE1 (eb:Nat) (k:EgK) (M:Mkt) (w:World) (h:Eg w eb k M):
  Calls Tryz.prog 72 #[.pointer (some ⟨eb,0,none⟩)] w fun e w'=>e=.returned (.int .i64 M.now)∧w'=w:=by
 have c5:w.cell? ⟨eb,6,none⟩=some (.int .i64 M.now):=aA0 (j:=6) h.box rfl;clear h;go_enter Tryz.func72,Tryz.ntmps72;go_wp2;go_ret;exact ⟨rfl,rfl⟩
set_option maxRecDepth 4000 in
set_option maxHeartbeats 1000000 in
theorem rA1 (eb:Nat) (k:EgK) (M:Mkt) (w:World) (h:Eg w eb k M):
  Calls Tryz.prog 77 #[.pointer (some ⟨eb,0,none⟩)] w fun e w'=>e=.returned (.tuple #[.int .i64 M.an,.int .i64 M.la])∧Below w.heap.size w w':=by
 have k1:=cell_regrown (aA0 (j:=1) (v:=.pointer (some ⟨k.nb,0,none⟩)) h.box rfl);have cA:∀dq os,Calls Tryz.prog 132 #[.pointer (some ⟨k.nb,0,none⟩)] (Go.Sort.grow (redrawn w dq) os) fun e w''=>e=.returned (.int .i64 M.an)∧∃p:Regrown,w''=Go.Sort.grow (redrawn w p.d) p.os:=fun dq os=>Calls.regrown_of (jC1 k.nb M.st M.dy M.an M.la _ (h.bn.below (below_regrown w dq os)))
 have cL:∀dq os,Calls Tryz.prog 128 #[.pointer (some ⟨k.nb,0,none⟩)] (Go.Sort.grow (redrawn w dq) os) fun e w''=>e=.returned (.int .i64 M.la)∧∃p:Regrown,w''=Go.Sort.grow (redrawn w p.d) p.os:=fun dq os=>Calls.regrown_of (mI1 k.nb M.st M.dy M.an M.la _ (h.bn.below (below_regrown w dq os)))
 clear h;go_enter Tryz.func77,Tryz.ntmps77;go_wp2_with fail;refine wp_region_quiet_below (by kernel_rfl) (by kernel_rfl) ?_
 repeat (go_big_quiet_step (first | exact cA _ _ | exact cL _ _))
 refine wpQuiet_nil ?_;intro _ hw';obtain ⟨⟨dq,osq⟩,hw''⟩:=hw';subst hw'';go_wp2;go_ret2;exact ⟨rfl,below_regrown w dq osq⟩
set_option maxRecDepth 4000 in
set_option maxHeartbeats 1000000 in
theorem rB1 (eb:Nat) (k:EgK) (M:Mkt) (w:World) (h:Eg w eb k M):
  Calls Tryz.prog 73 #[.pointer (some ⟨eb,0,none⟩)] w fun e w'=>∃err,e=.returned err∧ErrE err (oC0 M)∧EgGo w w' eb k k (hT0 M):=by
 have c5:w.cell? ⟨eb,5,none⟩=some (.int .i64 M.ph):=aA0 (j:=5) h.box rfl;have f5:=aB0 (j:=5) h.box;have H:Hid (Eg w eb k M):=h;clear h
 by_cases h6:M.ph=6
 ·have e6:(M.ph == 6)=true:=beq_iff_eq.2 h6;have HN:Hid (oC0 M=6∧hT0 M=M):=⟨by unfold oC0;rw [if_pos (Or.inl h6)],by unfold hT0;rw [if_pos (Or.inl h6)]⟩;clear h6;go_enter Tryz.func73,Tryz.ntmps73;go_wp2_with fail;go_ret;exact ⟨_,rfl,ErrE.no 6 HN.out.1 (by decide),by rw [HN.out.2];exact EgGo.refl H.out⟩
 ·have e6:(M.ph == 6)=false:=beq_eq_false_iff_ne.2 h6
  by_cases h7:M.ph=7
  ·have e7:(M.ph == 7)=true:=beq_iff_eq.2 h7;have HN:Hid (oC0 M=6∧hT0 M=M):=⟨by unfold oC0;rw [if_pos (Or.inr h7)],by unfold hT0;rw [if_pos (Or.inr h7)]⟩;clear h6 h7;go_enter Tryz.func73,Tryz.ntmps73;go_wp2_with fail;go_ret;exact ⟨_,rfl,ErrE.no 6 HN.out.1 (by decide),by rw [HN.out.2];exact EgGo.refl H.out⟩
  ·have e7:(M.ph == 7)=false:=beq_eq_false_iff_ne.2 h7;have hno:¬(M.ph=6∨M.ph=7):=fun e=>e.elim h6 h7
   have HN:Hid (oC0 M=0∧hT0 M={ M with ph:=6 }):=⟨by unfold oC0;rw [if_neg hno],by unfold hT0;rw [if_neg hno]⟩;clear h6 h7 hno;go_enter Tryz.func73,Tryz.ntmps73;go_wp2_with fail;go_ret;exact ⟨_,rfl,ErrE.yes HN.out.1,by rw [HN.out.2];exact H.out.write (j:=5) (M':={ M with ph:=6 }) rfl rfl rfl rfl rfl ⟨rfl,rfl,rfl,rfl⟩⟩
set_option maxRecDepth 4000 in
set_option maxHeartbeats 1000000 in
theorem mV0 (eb:Nat) (k:EgK) (M:Mkt) (w:World) (h:Eg w eb k M) (hn:0≤M.now∧M.now≤1000000000000) (ht:0≤M.ti∧M.ti≤1000000000000):
  Calls Tryz.prog 125 #[.pointer (some ⟨eb,0,none⟩)] w fun e w'=>e=.returned (.tuple #[])∧EgGo w w' eb k k (volM M):=by
 have c5:w.cell? ⟨eb,5,none⟩=some (.int .i64 M.ph):=aA0 (j:=5) h.box rfl;have f5:=aB0 (j:=5) h.box;have h1:=h.write (j:=5) (u:=.int .i64 4) (M':={ M with ph:=4 }) rfl rfl rfl rfl rfl ⟨rfl,rfl,rfl,rfl⟩;have wr:IntKind.i64.wrap (M.now+M.ti)=M.now+M.ti:=IntWalk.i64_in _ (by omega);clear h;go_enter Tryz.func125,Tryz.ntmps125;go_upto_region 1 with fail;generalize w.setCell ⟨eb,5,none⟩ (.int .i64 4)=w1 at h1 ⊢;have d6:w1.cell? ⟨eb,6,none⟩=some (.int .i64 M.now):=aA0 (j:=6) h1.1.box rfl;have d7:w1.cell? ⟨eb,7,none⟩=some (.int .i64 M.ti):=aA0 (j:=7) h1.1.box rfl;have d9:w1.cell? ⟨eb,9,none⟩=some (.int .i64 M.en):=aA0 (j:=9) h1.1.box rfl;have d10:w1.cell? ⟨eb,10,none⟩=some (.int .i64 M.lo):=aA0 (j:=10) h1.1.box rfl;have g9:=aB0 (j:=9) h1.1.box;have g10:=aB0 (j:=10) h1.1.box;have H1:Hid (EgGo w w1 eb k k { M with ph:=4 }):=h1;clear h1 c5 f5;go_region
 all_goals go_wp2_with fail
 all_goals refine bodyPost_end (results_none rfl _ _ _) rfl ?_
 all_goals refine ⟨rfl,H1.out.trans ?_⟩
 all_goals have h2:=H1.out.1.drew.write (j:=9) (u:=.int .i64 (M.now+M.ti)) (M':={ M with ph:=4,en:=M.now+M.ti }) rfl rfl rfl rfl rfl ⟨rfl,rfl,rfl,rfl⟩
 all_goals have h3:=h2.trans (h2.1.write (j:=10) (u:=.int .i64 0) (M':=volM M) rfl rfl rfl rfl rfl ⟨rfl,rfl,rfl,rfl⟩)
 all_goals exact (EgGo.stay H1.out.1 (Below.refl _ _).drew).trans h3
set_option maxHeartbeats 1000000 in
theorem oF0 (eb:Nat) (k:EgK) (M:Mkt) (w:World) (h:Eg w eb k M) (hr:0<M.rs.length∧M.rs.length≤60):
  Calls Tryz.prog 121 #[.pointer (some ⟨eb,0,none⟩)] w fun e w'=>e=.returned (.int .i64 (phaseV M.rs M.now).1)∧Below w.heap.size w w':=by
 have c0:=cell_regrown (aA0 (j:=0) (v:=.pointer (some ⟨k.tb,0,none⟩)) h.box rfl);have c6:=cell_regrown (aA0 (j:=6) (v:=.int .i64 M.now) h.box rfl);have cP:∀dq os,Calls Tryz.prog 174 #[.pointer (some ⟨k.tb,0,none⟩),.int .i64 M.now] (Go.Sort.grow (redrawn w dq) os) fun e w''=>e=.returned (.tuple #[.int .i64 (phaseV M.rs M.now).1,.int .i64 (phaseV M.rs M.now).2])∧∃p:Regrown,w''=Go.Sort.grow (redrawn w p.d) p.os:=fun dq os=>Calls.regrown_of (dT1 k.tb M.now M.rs _ (h.table.below (below_regrown w dq os) lR7) hr.1 hr.2)
 clear h;go_enter Tryz.func121,Tryz.ntmps121;go_wp2_with fail;refine wp_region_quiet_below (by kernel_rfl) (by kernel_rfl) ?_
 repeat (go_big_quiet_step (exact cP _ _))
 refine wpQuiet_nil ?_;intro _ hw';obtain ⟨⟨dq,osq⟩,hw''⟩:=hw';subst hw'';go_wp2;go_ret;exact ⟨rfl,below_regrown w dq osq⟩
def kL0 (o:Ord):Bool:=(decide (1≤o.side)&& decide (o.side≤2))&& (decide (1≤o.kind)&& decide (o.kind≤4))&& decide (0<o.id)
set_option maxRecDepth 4000 in
set_option maxHeartbeats 2000000 in
theorem oL1 (o:Ord) (w:World):
  Calls Tryz.prog 234 #[o.agg] w fun e w'=>e=.returned (.bool (kL0 o))∧Below w.heap.size w w':=by
 unfold Ord.agg;go_enter Tryz.func234,Tryz.ntmps234;go_wp2
 all_goals (go_ret;refine ⟨yB0 ?_,bel1 _ _⟩;(first | rfl | (rw [Bool.eq_iff_iff];simp only [kL0,Bool.or_eq_true,Bool.and_eq_true,beq_iff_eq,beq_eq_false_iff_ne,ne_eq,decide_eq_true_eq,decide_eq_false_iff_not,true_iff,Bool.false_eq_true,false_iff,iff_true,iff_false] at *;omega)))
def bX0 (w:World) (a:Option Addr) (l:List Ord):Prop:=∀k,k<l.length→∃b off,a=some ⟨b,off,none⟩∧w.cell? ⟨b,off+k*5,none⟩=some (.int .i64 (oAt l k).id)∧w.cell? ⟨b,off+k*5+1,none⟩=some (.int .i64 (oAt l k).side)∧w.cell? ⟨b,off+k*5+2,none⟩=some (.int .i64 (oAt l k).kind)∧w.cell? ⟨b,off+k*5+3,none⟩=some (.int .i64 (oAt l k).price)∧w.cell? ⟨b,off+k*5+4,none⟩=some (.int .i64 (oAt l k).qty)
theorem bN0 {w w':World} {p:Addr} {v:Value} (hb:Below w.heap.size w w') (h:w.cell? p=some v):w'.cell? p=some v:=(hb.cell (World.block_lt_of_cell? w _ h)).trans h
theorem bX0.below {w w':World} {a:Option Addr} {l:List Ord} (h:bX0 w a l) (hb:Below w.heap.size w w'):bX0 w' a l:=fun k hk=>by
 obtain ⟨b,off,e,h0,h1,h2,h3,h4⟩:=h k hk;exact ⟨b,off,e,bN0 hb h0,bN0 hb h1,bN0 hb h2,bN0 hb h3,bN0 hb h4⟩
theorem bX0.of_row {w:World} {base:Nat} {v:Value} {l:List Ord} (h:w.ownsRow base 92 5 v l.length (oV l)):∃a cap,v=.slice a l.length cap∧bX0 w a l:=by
 obtain ⟨a,cap,rfl,_,_⟩:=fN0 h;refine ⟨a,cap,rfl,fun k hk=>?_⟩;obtain ⟨g,cap',e,h0,h1,h2,h3,h4⟩:=iB0 h hk;simp only [Value.slice.injEq,true_and] at e;exact ⟨g,0,e.1,by simpa using h0,by simpa using h1,by simpa using h2,by simpa using h3,by simpa using h4⟩
theorem bL0 (w:World) (o:Obj):Below w.heap.size w (w.alloc o):=(Below.refl _ _).alloc lR7 o
theorem aO0 {w w1 w2:World} (h:Below w.heap.size w w1) (h1:Below w1.heap.size w1 w2):Below w.heap.size w w2:=h.trans (h1.mono h.size)
theorem aV0 {w:World} {b j:Nat} {vs:Array Value} {t:TypeId} {v:Value} (h:w.heap[b]? = some (.cells vs t (0,0))) (hj:vs[j]? = some v):w.cell? ⟨b,j,none⟩=some v:=(cell_of_row w b j vs t (0,0) h).trans hj
theorem eL0 {w:World} {b j:Nat} {vs:Array Value} {t:TypeId} (h:w.heap[b]? = some (.cells vs t (0,0))):w.frozen? ⟨b,j,none⟩=false:=frozen_of_row w b j vs t h
theorem gJ0 {w:World} {b j:Nat} {vs:Array Value} {t:TypeId} (u:Value) (h:w.heap[b]? = some (.cells vs t (0,0))):(w.setCell ⟨b,j,none⟩ u).heap[b]? = some (.cells (vs.setIfInBounds j u) t (0,0)):=heap_setCell_same w b j vs t u h
theorem fH0 {w w':World} {b:Nat} {o:Obj} (h:w.heap[b]? = some o) (hb:Below w.heap.size w w'):w'.heap[b]? = some o:=(hb.block b (lt_of_block h)).trans h
def ints (l:List Int):List Value:=l.map (Value.int .i64)
theorem oM1 {l:List Int} {k:Nat} (h:k<l.length):(ints l)[k]? = some (.int .i64 (l.getD k 0)):=by simp [ints,h]
theorem cB0 {w:World} {base base':Nat} {e:TypeId} {size:Nat} {v:Value} {n:Nat} {xs:List Value} (h:w.ownsRow base e size v n xs) (hb:base'≤base):w.ownsRow base' e size v n xs:=
 ⟨h.1,h.2.imp id (fun ⟨g,cap,cur,e,hg,r⟩=>⟨g,cap,cur,e,Nat.le_trans hb hg,r⟩)⟩
def hU0 (w:World) (a:Option Addr) (l:List Pt):Prop:=∀k,k<l.length→∃b off,a=some ⟨b,off,none⟩∧w.cell? ⟨b,off+k*3,none⟩=some (.int .i64 (ptAt l k).price)∧w.cell? ⟨b,off+k*3+1,none⟩=some (.int .i64 (ptAt l k).dem)∧w.cell? ⟨b,off+k*3+2,none⟩=some (.int .i64 (ptAt l k).sup)
theorem hU0.below {w w':World} {a:Option Addr} {l:List Pt} (h:hU0 w a l) (hb:Below w.heap.size w w'):hU0 w' a l:=fun k hk=>by
 obtain ⟨b,off,e,h0,h1,h2⟩:=h k hk;exact ⟨b,off,e,bN0 hb h0,bN0 hb h1,bN0 hb h2⟩
theorem hU0.of_row {w:World} {base:Nat} {t:TypeId} {v:Value} {l:List Pt} (h:w.ownsRow base t 3 v l.length (ptV l)):∃a cap,v=.slice a l.length cap∧hU0 w a l:=by
 obtain ⟨a,cap,rfl,_,_⟩:=fN0 h;refine ⟨a,cap,rfl,fun k hk=>?_⟩;obtain ⟨g,cap',e,h0,h1,h2⟩:=mK1 h hk;simp only [Value.slice.injEq,true_and] at e;exact ⟨g,0,e.1,by simpa using h0,by simpa using h1,by simpa using h2⟩
def mM0 (w:World) (qb:Nat):Prop:=w.heap[qb]? = some (.cells #[.int .i64 0,.int .i64 0,.int .i64 0] 107 (0,0))
theorem mM0.below {w w':World} {qb:Nat} (h:mM0 w qb) (hb:Below w.heap.size w w'):mM0 w' qb:=fH0 h hb
def layL (l:List Ord) (L:List Ord):List Ord:=l.foldl (fun L o=>addL o L) L
theorem eC1 {l:List Ord} {i:Nat} (L:List Ord) (h:i<l.length):layL (l.take (i+1)) L=addL (oAt l i) (layL (l.take i) L):=by
 unfold layL;rw [List.take_succ_eq_append_getElem h,List.foldl_append,←fS0 h];rfl
theorem bX0.out {S:Nat→Prop} {w w':World} {a:Option Addr} {l:List Ord} (h:bX0 w a l) (ho:Out S w w') (hS:∀b off,a=some ⟨b,off,none⟩→¬S b):bX0 w' a l:=fun k hk=>by
 obtain ⟨b,off,e,h0,h1,h2,h3,h4⟩:=h k hk;have hn:=hS b off e;exact ⟨b,off,e,bH0 h0 ho hn,bH0 h1 ho hn,bH0 h2 ho hn,bH0 h3 ho hn,bH0 h4 ho hn⟩
theorem iK0 {w w1 w2:World} {bb m m1:Nat} {b b1 b2:BkS} (h:Goes w w1 bb m b b1) (h1:Goes w1 w2 bb m1 b1 b2):Goes w w2 bb m1 b b2:=⟨h1.1,h.2.1.trans h1.2.1 h.2.2,h.2.2.trans h1.2.2 h.2.1.size⟩
theorem rP0 {w w1 w2:World} {bb m:Nat} {b b1:BkS} (h:Goes w w1 bb m b b1) (h1:Below w1.heap.size w1 w2):Goes w w2 bb m b b1:=iK0 h ⟨h.1.below h1 lR7,Out.of_below h1 lR7,Went.refl _ _⟩
theorem kM0 {w w1 w2:World} {bb m m1:Nat} {b b1:BkS} (h:Bk w bb m b) (hb:Below w.heap.size w w1) (h1:Goes w1 w2 bb m1 b b1):Goes w w2 bb m1 b b1:=iK0 ⟨h.below hb lR7,Out.of_below hb lR7,Went.refl _ _⟩ h1
set_option maxRecDepth 4000 in
set_option maxHeartbeats 2000000 in
theorem jS1 (eb:Nat) (k:EgK) (M:Mkt) (a:Option Addr) (cap:Nat) (l:List Ord) (w:World) (h:Eg w eb k M) (hin:bX0 w a l) (hw:∀o∈l,(Lit.int .i64 o.id).wf=true) (hf:∀b off,a=some ⟨b,off,none⟩→¬k.b.foot k.bb b) (hm:k.m+l.length≤900000):
  Calls Tryz.prog 169 #[.pointer (some ⟨eb,0,none⟩),.slice a l.length cap] w fun e w'=>e=.returned (.tuple #[])∧∃b',Lnk b'.S (layL l M.L)∧Goes w w' k.bb (k.m+l.length) k.b b':=by
 have H:Hid (Eg w eb k M):=h;have HIN:Hid (bX0 w a l):=hin;have HW:Hid (∀o∈l,(Lit.int .i64 o.id).wf=true):=hw;have HF:Hid (∀b off,a=some ⟨b,off,none⟩→¬k.b.foot k.bb b):=hf;clear h hin hw hf;go_enter Tryz.func169,Tryz.ntmps169;go_wp2_with fail;go_loopw [8] (fun u wr=>∃(i:Nat) (b1:BkS),u=.int .i64 i∧i≤l.length∧Lnk b1.S (layL (l.take i) M.L)∧Goes w wr k.bb (k.m+i) k.b b1) (fun u _=>l.length - (intOf u).toNat)
 case atStart=>exact ⟨0,k.b,rfl,Nat.zero_le _,H.out.lnk,H.out.bk,Out.refl _ _,Went.refl _ _⟩
 case round=>
  obtain ⟨i,b1,rfl,hi,hln,hg⟩:=hrel;have HLN:Hid (Lnk b1.S (layL (l.take i) M.L)):=hln;have HG:Hid (Goes w wr k.bb (k.m+i) k.b b1):=hg
  by_cases hi1:i<l.length
  ·have hlt:(i:Int)<(l.length:Int):=by omega
   obtain ⟨g,off,e1,d0,d1,d2,d3,d4⟩:=(HIN.out.out hg.2.1 HF.out) i hi1;subst e1;have HWI:Hid ((Lit.int .i64 (oAt l i).id).wf=true):=HW.out _ (by rw [fS0 hi1];exact List.getElem_mem hi1);have HS:Hid (layL (l.take (i+1)) M.L=addL (oAt l i) (layL (l.take i) M.L)):=eC1 M.L hi1;have HE:Hid (Eg wr eb { k with m:=k.m+i,b:=b1 } { M with L:=layL (l.take i) M.L }):=(H.out.ofBook hg hln (Nat.le_add_right _ _)).1;generalize oAt l i=o at d0 d1 d2 d3 d4 HWI HS;clear hg hln;go_upto_region 3 with fail;have hx:=heap_alloc_new wr (.cells #[.int .i64 o.id,.int .i64 o.side,.int .i64 o.kind,.int .i64 o.price,.int .i64 o.qty] 92);have HB1:=bel1 wr (.cells #[.int .i64 o.id,.int .i64 o.side,.int .i64 o.kind,.int .i64 o.price,.int .i64 o.qty] 92);generalize wr.alloc (.cells #[.int .i64 o.id,.int .i64 o.side,.int .i64 o.kind,.int .i64 o.price,.int .i64 o.qty] 92)=w1 at hx HB1 ⊢;have h1:=HE.out.below HB1;have HG1:Hid (Goes w w1 k.bb (k.m+i) k.b b1):=rP0 HG.out HB1;have hne:¬b1.foot k.bb wr.heap.size:=h1.bk.farBox hx (by decide) (by decide) (by decide) (by decide) (by decide)
   have HSS:Hid (∀w',Out (b1.foot k.bb) w1 w'→w'.cell? ⟨eb,2,none⟩=some (.pointer (some ⟨k.bb,0,none⟩))∧w'.cell? ⟨wr.heap.size,0,none⟩=some (.int .i64 o.id)∧w'.cell? ⟨wr.heap.size,1,none⟩=some (.int .i64 o.side)∧w'.cell? ⟨wr.heap.size,2,none⟩=some (.int .i64 o.kind)∧w'.cell? ⟨wr.heap.size,3,none⟩=some (.int .i64 o.price)∧w'.cell? ⟨wr.heap.size,4,none⟩=some (.int .i64 o.qty)∧Out (b1.foot k.bb) w1 w'):=fun w' ho=>by
    have hx':=aE0 hx ho hne;exact ⟨aA0 (j:=2) (aE0 h1.box ho h1.ebbk) rfl,aA0 (j:=0) hx' rfl,aA0 (j:=1) hx' rfl,aA0 (j:=2) hx' rfl,aA0 (j:=3) hx' rfl,aA0 (j:=4) hx' rfl,ho⟩
   have HBK:Hid (Bk w1 k.bb (k.m+i) b1):=h1.bk;clear hx HB1 d0 d1 d2 d3 d4 hne h1 HE HG;have hm1:k.m+i+1≤900000:=by omega
   go_region_held3 (fun w'=>w'.cell? ⟨eb,2,none⟩=some (.pointer (some ⟨k.bb,0,none⟩))∧w'.cell? ⟨wr.heap.size,0,none⟩=some (.int .i64 o.id)∧w'.cell? ⟨wr.heap.size,1,none⟩=some (.int .i64 o.side)∧w'.cell? ⟨wr.heap.size,2,none⟩=some (.int .i64 o.kind)∧w'.cell? ⟨wr.heap.size,3,none⟩=some (.int .i64 o.price)∧w'.cell? ⟨wr.heap.size,4,none⟩=some (.int .i64 o.qty)∧Out (b1.foot k.bb) w1 w')
    ((refine HSS.out _ ?_;(first | exact HO2.out | exact Out.refl _ _ | exact aT0 (Out.refl _ _))))
    ((go_at_call 242;refine (jO1 (HBK.out.below (Below.refl _ _).drew lR7) hm1 HLN.out o HWI.out).mono ?_;rintro e w2 ⟨err,rfl,_,b2,hl2,hg2⟩;have HL2:Hid _:=hl2;have HG2:Hid (Goes w1 w2 k.bb (k.m+i+1) b1 b2):=kM0 HBK.out (Below.refl _ _).drew hg2;have HO2:Hid (Out (b1.foot k.bb) w1 w2):=HG2.out.2.1;clear hl2 hg2))
   go_wp2_with fail;go_roundw
   case rel=>exact ⟨i+1,b2,by go_num,hi1,by rw [HS.out];exact HL2.out,iK0 HG1.out HG2.out⟩
   case measure=>first | (simp [intOf];omega) | (show l.length - (i+1)<l.length - i;omega) | omega
  ·obtain rfl:i=l.length:=by omega
   rw [List.take_length] at HLN;clear hg hln;go_wp2_with fail;refine bodyPost_end (results_none rfl _ _ _) rfl ?_;exact ⟨rfl,b1,HLN.out,HG.out⟩
theorem aM1 (w:World):CallsD Tryz.prog 287 #[] .returning w fun e u' w'=>e=.returned (.tuple #[])∧u'=.returning∧w'=w:=by
 refine callsD_of_wpS Tryz.func287 rfl fun c₀ cs hu=>?_
 apply wpS_region;simp [wpOpsS,go_sem,recoverD,hu,Tryz.ntmps287,bodyPostS,results,Tryz.results287];cases c₀
 simp_all
theorem wG0 (w:World):CallsD Tryz.prog 289 #[] .returning w fun e u' w'=>e=.returned (.tuple #[])∧u'=.returning∧w'=w:=by
 refine callsD_of_wpS Tryz.func289 rfl fun c₀ cs hu=>?_
 apply wpS_region;simp [wpOpsS,go_sem,recoverD,hu,Tryz.ntmps289,bodyPostS,results,Tryz.results289];cases c₀
 simp_all
set_option maxHeartbeats 1000000 in
theorem rC1 (g:Nat) (fa la:Array Value) (p:Int) (v:Bool) (W:World) (hen:∀args w,(callFunc g args).run Tryz.prog w=.ok (.enter g args) w) (Q:World→Prop)
  (hc:Calls Tryz.prog g (fa++#[.int .i64 p]++la) W fun e W'=>e=.returned (.bool v)∧Q W'):
  Calls Tryz.prog 269 #[.func (.func g) fa la,.int .i64 p] W fun e W'=>e=.returned (.bool v)∧Q W':=by
 go_enter_defers Tryz.func269,Tryz.ntmps269;go_wp2_with fail;refine hc.mono ?_;rintro e w1 ⟨rfl,hq⟩;have HQ:Hid (Q w1):=hq;clear hq;go_wp2_with fail;refine leaves_cons (f:=287) (args:=#[]) (by simp) (by simp [go_sem]) ?_;refine (aM1 _).mono ?_;rintro e u' w'' ⟨rfl,rfl,rfl⟩;exact ⟨_,results_tmp rfl _ _ _,rfl,HQ.out⟩
set_option maxHeartbeats 1000000 in
theorem oN1 (g:Nat) (fa la:Array Value) (p:Int) (W:World) (hen:∀args w,(callFunc g args).run Tryz.prog w=.ok (.enter g args) w) (Q:World→Prop)
  (hc:Calls Tryz.prog g (fa++#[.int .i64 p]++la) W fun e W'=>e=.returned (.tuple #[])∧Q W'):
  Calls Tryz.prog 272 #[.func (.func g) fa la,.int .i64 p] W fun e W'=>e=.returned (.tuple #[])∧Q W':=by
 go_enter_defers Tryz.func272,Tryz.ntmps272;go_wp2_with fail;refine hc.mono ?_;rintro e w1 ⟨rfl,hq⟩;have HQ:Hid (Q w1):=hq;clear hq;go_wp2_with fail;refine leaves_cons (f:=289) (args:=#[]) (by simp) (by simp [go_sem]) ?_;refine (wG0 _).mono ?_;rintro e u' w'' ⟨rfl,rfl,rfl⟩;exact ⟨_,results_none rfl _ _ _,rfl,HQ.out⟩
structure StE (St:World→List Int→(Nat→Prop)→Prop):Prop where
 keep:∀{w w' ts D} {S:Nat→Prop},St w ts D→Out S w w'→(∀j,D j→¬S j)→St w' ts D
 far:∀{w ts D},St w ts D→∀j,D j→j<w.heap.size∧∀vs t fr,w.heap[j]? = some (.cells vs t fr)→t≠92∧t≠146
structure AskE (g:Nat) (fa la:Array Value) (al:List Int→Int→Bool) (St:World→List Int→(Nat→Prop)→Prop):Prop where
 enters:∀args w,(callFunc g args).run Tryz.prog w=.ok (.enter g args) w
 tells:∀{W ts D},St W ts D→∀p:Int,1≤p→p≤1000000→Calls Tryz.prog g (fa++#[.int .i64 p]++la) W fun e W'=>e=.returned (.bool (al ts p))∧Below W.heap.size W W'
structure TellE (g:Nat) (fa la:Array Value) (St:World→List Int→(Nat→Prop)→Prop):Prop where
 enters:∀args w,(callFunc g args).run Tryz.prog w=.ok (.enter g args) w
 tells:∀{W ts D},St W ts D→ts.length≤1000→∀p:Int,1≤p→p≤1000000→Calls Tryz.prog g (fa++#[.int .i64 p]++la) W fun e W'=>e=.returned (.tuple #[])∧∃D',St W' (ts++[p]) D'∧Out D W W'∧∀j,D' j→D j∨W.heap.size≤j
theorem oO1 {o x:Ord} (hs:o.side=1∨o.side=2):wilP x.price o=!farB o x:=by
 unfold wilP farB;rcases hs with h | h
 ·rw [h]
  by_cases hk:o.kind=2
  ·simp [hk]
  ·simp [hk];rw [←decide_not];exact decide_eq_decide.2 (by omega)
 ·rw [h]
  by_cases hk:o.kind=2
  ·simp [hk]
  ·simp [hk];rw [←decide_not];exact decide_eq_decide.2 (by omega)
theorem eD1 (o x:Ord) (w:World) (hs:o.side=1∨o.side=2):
  Calls Tryz.prog 270 #[.agg #[.int .i64 o.id,.int .i64 o.side,.int .i64 o.kind,.int .i64 o.price,.int .i64 o.qty],.agg #[.int .i64 x.id,.int .i64 x.side,.int .i64 x.kind,.int .i64 x.price,.int .i64 x.qty],.int .i64 x.price] w
   fun e w'=>e=.returned (.agg #[.int .i64 (kG0 o x (min o.qty x.qty)).buyer,.int .i64 (kG0 o x (min o.qty x.qty)).seller,.int .i64 (kG0 o x (min o.qty x.qty)).price,.int .i64 (kG0 o x (min o.qty x.qty)).qty])∧Below w.heap.size w w':=by
 rcases hs with h | h
 ·have e:kG0 o x (min o.qty x.qty)=⟨o.id,x.id,x.price,min o.qty x.qty⟩:=if_pos h;rw [e];exact qB0 o x x.price w (by rw [h];rfl)
 ·have e:kG0 o x (min o.qty x.qty)=⟨x.id,o.id,x.price,min x.qty o.qty⟩:=by unfold kG0;rw [if_neg (by omega),Int.min_comm]
  rw [e];exact aL1 o x x.price w (by rw [h];rfl)
structure Mp (w W:World) (bb m ob rb B:Nat) (vx vf:Value) (b b':BkS) (X:List Ord) (o:Ord) (s:MS) (St:World→List Int→(Nat→Prop)→Prop) (D0 D:Nat→Prop):Prop where
 old:w.heap.size≤ob∧w.heap.size≤rb∧ob≠rb∧ob<B∧rb<B
 row:W.ownsRow B 92 5 vx X.length (oV X)
 box:cP0 W ob (cE0 o s.q)
 res:ZBox W rb
 bk:Bk W bb m b'
 lnk:Lnk b'.S s.L
 fils:W.ownsRow w.heap.size 146 4 vf s.fs.length (fV s.fs)
 told:St W s.ts D
 out:Out (fun j=>b.foot bb j∨D0 j) w W
 went:Went w (b.foot bb) (b'.foot bb)
 dees:∀j,D j→D0 j∨w.heap.size≤j
 apart:∀j,D j→¬b'.foot bb j
section
variable {w W W':World} {bb m m' ob rb B:Nat} {vx vf:Value} {b b' b2:BkS} {X:List Ord} {o x:Ord} {s:MS} {St:World→List Int→(Nat→Prop)→Prop} {D0 D:Nat→Prop}
theorem Mp.below (hF:StE St) (h:Mp w W bb m ob rb B vx vf b b' X o s St D0 D) (hb:Below W.heap.size W W'):Mp w W' bb m ob rb B vx vf b b' X o s St D0 D:=
 ⟨h.old,aS0 h.row hb lR7,aD0 h.box hb lR7,aD0 h.res hb lR7,h.bk.below hb lR7,h.lnk,aS0 h.fils hb lR7,hF.keep h.told (Out.of_below (S:=fun _=>False) hb lR7) (fun _ _ e=>e),bA0 h.out (Out.of_below hb lR7),h.went,h.dees,h.apart⟩
theorem Mp.pushed (_:Mp w W bb m ob rb B vx vf b b' X o s St D0 D) {obj:Obj} (hg:(W.alloc obj).grownBy W' vf.ownBlock):Out (fun j=>vf.ownBlock=some j) W W':=bA0 (cU0 (Out.refl _ _) _) (Out.of_grown hg (fun _ hk=>hk))
theorem Mp.push (hF:StE St) (h:Mp w W bb m ob rb B vx vf b b' X o s St D0 D) {obj:Obj} {v':Value} {f:Fil} (hg:(W.alloc obj).grownBy W' vf.ownBlock) (hn:W'.ownsRow w.heap.size 146 4 v' (s.fs.length+1) (fV s.fs++[.int .i64 f.buyer,.int .i64 f.seller,.int .i64 f.price,.int .i64 f.qty])):
  Mp w W' bb m ob rb B vx v' b b' X o ⟨s.fs++[f],s.L,s.q,s.ts⟩ St D0 D:=by
 have h6:=h.pushed hg;refine ⟨h.old,aL0 h.row h6 (fun k hk=>bJ0 h.row h.fils (by decide) hk),aE0 h.box h6 (aF0 h.fils h.box (by decide)),aE0 h.res h6 (aF0 h.fils h.res (by decide)),h.bk.out h6 (fun k hk e=>h.bk.farAny h.fils (by decide) (by decide) (by decide) (by decide) (by decide) k e hk),h.lnk,?_,hF.keep h.told h6 (fun j hj e=>?_),h.out.trans h6 (fun k hk=>Or.inr (h.fils.lt k hk).1),h.went,h.dees,h.apart⟩
 ·rw [cT1,List.length_append,List.length_singleton];exact hn
 ·rcases h.fils.2 with ⟨rfl,_⟩ | ⟨g,cap,cur,rfl,_,hh,_⟩
  ·cases e
  ·have e':g=j:=by simpa [Value.ownBlock] using e
   subst e';exact ((hF.far h.told _ hj).2 _ _ _ hh).2 rfl
theorem Mp.cut (hF:StE St) (h:Mp w W bb m ob rb B vx vf b b' X o s St D0 D) {L':List Ord} (hg:Goes W W' bb m' b' b2) (hl:Lnk b2.S L'):
  Mp w W' bb m' ob rb B vx vf b b2 X o ⟨s.fs,L',s.q,s.ts⟩ St D0 D:=by
 obtain ⟨g1,g2,g3⟩:=hg;refine ⟨h.old,aL0 h.row g2 (h.bk.farAny h.row (by decide) (by decide) (by decide) (by decide) (by decide)),aE0 h.box g2 (h.bk.farBox h.box (by decide) (by decide) (by decide) (by decide) (by decide)),aE0 h.res g2 (h.bk.farBox h.res (by decide) (by decide) (by decide) (by decide) (by decide)),g1,hl,aL0 h.fils g2 (h.bk.farAny h.fils (by decide) (by decide) (by decide) (by decide) (by decide)),hF.keep h.told g2 h.apart,h.out.trans g2 (fun k hk=>(h.went k hk).elim (fun e=>Or.inl (Or.inl e)) Or.inr),fun k hk=>?_,h.dees,fun j hj e=>?_⟩
 ·exact (g3 k hk).elim (h.went k) (fun e=>Or.inr (Nat.le_trans h.out.size e))
 ·rcases g3 j e with e | e
  ·exact h.apart j hj e
  ·have:=(hF.far h.told _ hj).1;omega
theorem Mp.left (hF:StE St) (h:Mp w W bb m ob rb B vx vf b b' X o s St D0 D) (q:Int):
  Mp w (W.setCell ⟨ob,4,none⟩ (.int .i64 q)) bb m ob rb B vx vf b b' X o ⟨s.fs,s.L,q,s.ts⟩ St D0 D:=by
 have ho:Out (fun j=>j=ob) W (W.setCell ⟨ob,4,none⟩ (.int .i64 q)):=aN0 W ⟨ob,4,none⟩ _;obtain ⟨o1,o2,o3,o4,o5⟩:=h.old;have hb:¬b'.foot bb ob:=h.bk.farBox h.box (by decide) (by decide) (by decide) (by decide) (by decide);refine ⟨h.old,aL0 h.row ho (fun k hk e=>?_),aH0 (j:=4) (.int .i64 q) h.box,aE0 h.res ho (fun e=>o3 e.symm),h.bk.out ho (fun k hk e=>hb (by rw [←show k=ob from e];exact hk)),h.lnk,aL0 h.fils ho (fun k hk e=>aF0 h.fils h.box (by decide) (hk.trans (congrArg some e))),hF.keep h.told ho (fun j hj e=>?_),h.out.trans ho (fun k hk=>Or.inr (by rw [show k=ob from hk];exact o1)),h.went,h.dees,h.apart⟩
 ·have:=(h.row.lt k hk).1;have e':k=ob:=e;omega
 ·have e':j=ob:=e;subst e';exact ((hF.far h.told _ hj).2 _ _ _ h.box).1 rfl
theorem Mp.tell (hF:StE St) (h:Mp w W bb m ob rb B vx vf b b' X o s St D0 D) {D':Nat→Prop} {p:Int} (ht:St W' (s.ts++[p]) D') (ho:Out D W W') (hd:∀j,D' j→D j∨W.heap.size≤j):
  Mp w W' bb m ob rb B vx vf b b' X o ⟨s.fs,s.L,s.q,s.ts++[p]⟩ St D0 D':=by
 have hs:=h.out.size
 have no:∀{k:Nat} {vs:Array Value} {t:TypeId} {fr:Nat×Nat},W.heap[k]? = some (.cells vs t fr)→(t=92∨t=146)→¬D k:=fun hb ht hD=>by
  have:=(hF.far h.told _ hD).2 _ _ _ hb;rcases ht with e | e
  ·exact this.1 e
  ·exact this.2 e
 have nr:∀{base':Nat} {e:TypeId} {size n:Nat} {v:Value} {xs:List Value},W.ownsRow base' e size v n xs→(e=92∨e=146)→∀k,v.ownBlock=some k→¬D k:=fun hr he k hk=>by
  rcases hr.2 with ⟨rfl,_⟩ | ⟨g,cap,cur,rfl,_,hh,_⟩
  ·cases hk
  ·have e':g=k:=by simpa [Value.ownBlock] using hk
   subst e';exact no hh he
 refine ⟨h.old,aL0 h.row ho (nr h.row (Or.inl rfl)),aE0 h.box ho (no h.box (Or.inl rfl)),aE0 h.res ho (no h.res (Or.inl rfl)),h.bk.out ho (fun k hk e=>h.apart k e hk),h.lnk,aL0 h.fils ho (nr h.fils (Or.inr rfl)),ht,h.out.trans ho (fun k hk=>(h.dees k hk).elim (fun e=>Or.inl (Or.inr e)) Or.inr),h.went,fun j hj=>?_,fun j hj e=>?_⟩
 ·rcases hd j hj with e | e
  ·exact h.dees j e
  ·exact Or.inr (Nat.le_trans hs e)
 ·rcases hd j hj with e' | e'
  ·exact h.apart j e' e
  ·have:=h.bk.lt e;omega
theorem Mp.start (hF:StE St) {V:World} {L:List Ord} (h:Bk w bb m b) (hl:Lnk b.S L) (hst:St w [] D) (hap:∀j,D j→¬b.foot bb j) (hb:Below w.heap.size w V) (ho:cP0 V ob o) (hr:ZBox V rb) (h1:w.heap.size≤ob) (h2:w.heap.size≤rb) (h3:ob≠rb) (hx:W.ownsRow V.heap.size 92 5 vx X.length (oV X)) (hb2:Below V.heap.size V W):
  Mp w W bb m ob rb V.heap.size vx (.slice none 0 0) b b X o ⟨[],L,o.qty,[]⟩ St D D:=by
 have hb3:=aC0 hb hb2;exact ⟨⟨h1,h2,h3,lt_of_block ho,lt_of_block hr⟩,hx,aD0 ho hb2 lR7,aD0 hr hb2 lR7,h.below hb3 lR7,hl,World.ownsRow_nil _ _ _ _,hF.keep hst (Out.of_below (S:=fun _=>False) hb3 lR7) (fun _ _ e=>e),Out.of_below hb3 lR7,Went.refl _ _,fun j hj=>Or.inl hj,hap⟩
theorem Mp.done (hF:StE St) (h:Mp w W bb m ob rb B vx vf b b' X o s St D0 D):
  DBox (boxed W rb (cE0 o s.q)).drew rb (cE0 o s.q)∧(boxed W rb (cE0 o s.q)).drew.ownsRow w.heap.size 146 4 vf s.fs.length (fV s.fs)∧Bk (boxed W rb (cE0 o s.q)).drew bb m b'∧Lnk b'.S s.L∧St (boxed W rb (cE0 o s.q)).drew s.ts D∧Out (fun j=>b.foot bb j∨D0 j) w (boxed W rb (cE0 o s.q)).drew∧Went w (b.foot bb) (b'.foot bb)∧(∀j,D j→D0 j∨w.heap.size≤j):=by
 have ho:Out (fun j=>j=rb) W (boxed W rb (cE0 o s.q)).drew:=aT0 (kI0 W rb (cE0 o s.q))
 have hd:DBox (boxed W rb (cE0 o s.q)).drew rb (cE0 o s.q):=by
  unfold DBox;rw [jV0];exact yA0 (cE0 o s.q) h.res
 generalize (boxed W rb (cE0 o s.q)).drew=W' at ho hd ⊢;obtain ⟨o1,o2,o3,o4,o5⟩:=h.old;have hb:¬b'.foot bb rb:=h.bk.farBox h.res (by decide) (by decide) (by decide) (by decide) (by decide);refine ⟨hd,aL0 h.fils ho (fun k hk e=>aF0 h.fils h.res (by decide) (hk.trans (congrArg some e))),h.bk.out ho (fun k hk e=>hb (by rw [←show k=rb from e];exact hk)),h.lnk,hF.keep h.told ho (fun j hj e=>?_),h.out.trans ho (fun k hk=>Or.inr (by rw [show k=rb from hk];exact o2)),h.went,h.dees⟩;have e':j=rb:=e;subst e';exact ((hF.far h.told _ hj).2 _ _ _ h.res).1 rfl
end
def mM1 (al:List Int→Int→Bool) (o:Ord) (L:List Ord) (bb m:Nat) (b:BkS) (St:World→List Int→(Nat→Prop)→Prop) (D:Nat→Prop) (w:World) (e:Ending) (w':World):Prop:=
 ∃(s:MS) (t:Bool) (vf:Value) (b':BkS) (m':Nat) (D':Nat→Prop),cH0 al o (aK0 (3 - o.side) L) ⟨[],L,o.qty,[]⟩=(s,t)∧m'≤m+100∧e=.returned (.tuple #[vf,.agg #[.int .i64 o.id,.int .i64 o.side,.int .i64 o.kind,.int .i64 o.price,.int .i64 s.q],.bool t])∧w'.ownsRow w.heap.size 146 4 vf s.fs.length (fV s.fs)∧Bk w' bb m' b'∧Lnk b'.S s.L∧St w' s.ts D'∧Out (fun j=>b.foot bb j∨D j) w w'∧Went w (b.foot bb) (b'.foot bb)∧∀j,D' j→D j∨w.heap.size≤j
theorem wH0 {al:List Int→Int→Bool} {o:Ord} {L:List Ord} {bb m m':Nat} {b b':BkS} {St:World→List Int→(Nat→Prop)→Prop} {D D':Nat→Prop} {w w':World} {s:MS} {t:Bool} {vf:Value} (h:cH0 al o (aK0 (3 - o.side) L) ⟨[],L,o.qty,[]⟩=(s,t)) (hm:m'≤m+100) (h2:w'.ownsRow w.heap.size 146 4 vf s.fs.length (fV s.fs)∧Bk w' bb m' b'∧Lnk b'.S s.L∧St w' s.ts D'∧Out (fun j=>b.foot bb j∨D j) w w'∧Went w (b.foot bb) (b'.foot bb)∧∀j,D' j→D j∨w.heap.size≤j):
  mM1 al o L bb m b St D w (.returned (.tuple #[vf,.agg #[.int .i64 o.id,.int .i64 o.side,.int .i64 o.kind,.int .i64 o.price,.int .i64 s.q],.bool t])) w':=⟨s,t,vf,b',m',D',h,hm,rfl,h2⟩
end Go.Proofs.YtaelphbianmckaaGreatDoor
