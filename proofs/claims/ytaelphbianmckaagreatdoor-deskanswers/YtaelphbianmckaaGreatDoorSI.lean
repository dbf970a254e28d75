/- DeskAnswers -/
import Derived.Test.YtaelphbianmckaaGreatDoorSG
import Derived.Test.YtaelphbianmckaaGreatDoorSH
open Go.Value renaming int->U, pointer->E, slice->J
open Go.IntKind renaming i64->G
open Go.Obj renaming cells->R
open Go.Ending renaming returned->Y
open Go.Proofs.Tryz
open Go.RowKit.Below renaming refl->aF, drew->aV, alloc->aS
open Bool renaming and_eq_true->bE, false_or->eD
open List renaming mem_cons_self->aK, length_append->aN, isSuffixOf->gX
open Nat renaming lt_of_lt_of_le->aT, le_trans->aI, le_add_right->bV, zero_add->bT
open Or renaming inl->aH, inr->aG
open Go.Proofs.YtaelphbianmckaaGreatDoor.Out renaming of_below->aL, refl->bL
open Go.Proofs.YtaelphbianmckaaGreatDoor.Went renaming refl->aJ
set_option maxHeartbeats 8000000
set_option maxRecDepth 100000
namespace Go.Proofs.YtaelphbianmckaaGreatDoor
variable {b:BkS} {dy mo p st ti:Int} {rs:List (Int×Int)} {a d i m:Nat} {v:Value} {w w' w1:World}
section
open Go.RowKit Go.Maps
def oQ1 (v:Value):Option (DataW Unit×List MemPlace):=
 match v with
 | .agg ⟨[]⟩=>some (.agg [],[])
 | _=>none
theorem oR1 {d:DataW Unit} {a:List MemPlace} (h:oQ1 v=some (d,a)):v=.agg #[]:=by
 unfold oQ1 at h;split at h
 ·rfl
 ·cases h
theorem zeroUnit (w:World):(zeroValue 236).run prog w=.ok (.agg #[]) w:=k7
def lE0 (w:World) (mb n:Nat) (I:List Int):Prop:=∃D:DataW Unit,w.ownsMap prog 3 oQ1 mb n D/\∀id:Int,Maps.has D (.int .i64 id)=decide (id∈I)
section
variable {w w':World} {mb n:Nat} {I:List Int}
theorem lE0.same (h:lE0 w mb n I) (a:w'.heap[mb]? = w.heap[mb]?):lE0 w' mb n I:=by
 obtain ⟨D,h1,r⟩:=h;exact ⟨D,qS0 h1 a,r⟩
theorem lE0.lt (h:lE0 w mb n I):mb<w.heap.size:=by
 obtain ⟨D,h1,r⟩:=h;exact h1.lt
theorem lE0.ne {b:Nat} {vs:Array Value} {t:TypeId} {f:Nat×Nat} (h:lE0 w mb n I) (c:w.heap[b]? = some (.cells vs t f)):b≠mb:=fun e=>by
 obtain ⟨D,⟨d,a,h1,_⟩,_⟩:=h;rw [e,h1] at c;cases c
theorem lE0.look (h:lE0 w mb n I) {id:Int} (d:(Lit.int .i64 id).wf=true):
  (Instr.lookup 163 (.map (some mb)) (.int .i64 id) true).run prog w=.ok (.tuple #[.agg #[],.bool (decide (id∈I))]) w:=by
 obtain ⟨D,h1,a⟩:=h;obtain ⟨v,e,b,c⟩:=h1.look_ok keyI underlying163 (zeroUnit w) (zd:=.agg []) (zp:=[]) rfl (keyAt d);rw [b,oR1 c,a id]
theorem lE0.put (h:lE0 w mb n I) {id:Int} (i:(Lit.int .i64 id).wf=true) (k:n<1000000):
  ∃w',(Instr.mapUpdate 163 (.map (some mb)) (.int .i64 id) (.agg #[])).run prog w=.ok () w'/\lE0 w' mb (n+1) (I++[id])/\Out (fun j=>j=mb) w w':=by
 obtain ⟨D,h1,c⟩:=h;obtain ⟨w',g,d,f⟩:=h1.store keyI underlying163 (by unfold maxLen;omega) (keyAt i) (show oQ1 (.agg #[])=some (.agg [],[]) from rfl);refine ⟨w',g,⟨_,d,fun x=>?_⟩,oZ0 f⟩
 by_cases e:x=id
 ·subst e;rw [Maps.has_put_same h1.isMap (zL1 _) _];simp
 ·have a:Lit.int .i64 x≠Lit.int .i64 id:=fun b=>e (sL0 b)
  rw [Maps.has_put_other a,c x];simp [e]
end
structure EgK where
 tb:Nat
 cb:Nat
 ct:Nat
 nb:Nat
 bb:Nat
 m:Nat
 b:BkS
 vp:Value
 tk:Nat
 n:Nat
def EgK.foot (eb:Nat) (k:EgK) (j:Nat):Prop:=j=eb\/j=k.nb\/k.b.foot k.bb j\/k.vp.ownBlock=some j\/j=k.tk
def egV (k:EgK) (M:Mkt):Array Value:=#[E (some ⟨k.tb,0,none⟩),E (some ⟨k.nb,0,none⟩),E (some ⟨k.bb,0,none⟩),k.vp,.map (some k.tk),U G M.ph,U G M.now,U G M.ti,U G M.mo,U G M.en,U G M.lo]
structure Eg (w:World) (eb:Nat) (k:EgK) (M:Mkt):Prop where
 box:w.heap[eb]? = some (R (egV k M) 165 (0,0))
 tab:w.cell? ⟨k.tb,0,none⟩=some (J (some ⟨k.cb,0,none⟩) M.rs.length k.ct)/\cV0 w k.cb 0 M.rs
 tlt:k.cb<w.heap.size
 bn:BnAt w k.nb M.st M.dy M.an M.la
 bk:Bk w k.bb k.m k.b
 lnk:Lnk k.b.S M.L
 pk:w.ownsRow 0 92 5 k.vp M.P.length (oV M.P)
 tkn:lE0 w k.tk k.n M.I
 tkf:¬k.b.foot k.bb k.tk
 few:k.n<=k.m
 far:∀j,j=k.tb\/j=k.cb->¬k.foot eb j
theorem cX0 {S:Nat->Prop} {b:Nat} (h:cV0 w b a rs) (g:Out S w w') (d:¬S b):cV0 w' b a rs:=fun j u f=>by
 have h1:=h j u f;have c:b<w.heap.size:=World.block_lt_of_cell? w _ h1;have e:=g.block b c d;rw [<-h1];simp only [World.cell?,e]
theorem cH0 {S:Nat->Prop} {a:Addr} (h:w.cell? a=some v) (c:Out S w w') (b:¬S a.block):w'.cell? a=some v:=by
 have e:=c.block a.block (World.block_lt_of_cell? w _ h) b;rw [<-h];simp only [World.cell?,e]
section
variable {w w':World} {eb:Nat} {k:EgK} {M:Mkt}
theorem Eg.tlt' (h:Eg w eb k M):k.tb<w.heap.size:=World.block_lt_of_cell? w _ h.tab.1
theorem Eg.table (h:Eg w eb k M):pD0 w k.tb M.rs:=⟨k.cb,k.ct,h.tab.1,h.tab.2⟩
theorem Eg.out {S:Nat->Prop} (h:Eg w eb k M) (a:Out S w w') (b:∀j,k.foot eb j\/j=k.tb\/j=k.cb->¬S j):Eg w' eb k M:=
 ⟨aF0 h.box a (b _ (aH (aH rfl))),⟨cH0 h.tab.1 a (b _ (aG (aH rfl))),cX0 h.tab.2 a (b _ (aG (aG rfl)))⟩,aT h.tlt a.size,
  aF0 h.bn a (b _ (aH (aG (aH rfl)))),h.bk.out a (fun _ c=>b _ (aH (aG (aG (aH c))))),h.lnk,aK0 h.pk a (fun _ c=>b _ (aH (aG (aG (aG (aH c)))))),
  h.tkn.same (a.block _ h.tkn.lt (b _ (aH (aG (aG (aG (aG rfl))))))),h.tkf,h.few,h.far⟩
theorem Eg.below (h:Eg w eb k M) (a:Below w.heap.size w w'):Eg w' eb k M:=h.out (S:=fun _=>False) (aL a lR7) (fun _ _ e=>e)
theorem Eg.drew (h:Eg w eb k M):Eg w.drew eb k M:=h.below (aF _ _).drew
theorem Eg.few100 (h:Eg w eb k M):M.L.length<=100:=xN0 h.bk.ok h.lnk
theorem Eg.lok (h:Eg w eb k M):LOk M.L:=by
 refine ⟨fun o a=>?_,h.lnk.ids,fun o a=>h.lnk.ok h.bk.ok o a⟩;obtain ⟨s,b,x,c,rfl⟩:=h.lnk.mem.1 a;have:=h.bk.ok.side s b x c;omega
theorem Eg.ebnb (h:Eg w eb k M):eb≠k.nb:=dQ0 h.box h.bn d7
theorem Eg.ebbk (h:Eg w eb k M):¬k.b.foot k.bb eb:=h.bk.farBox h.box d7 d7 d7 d7 d7
theorem Eg.nbbk (h:Eg w eb k M):¬k.b.foot k.bb k.nb:=h.bk.farBox h.bn d7 d7 d7 d7 d7
theorem Eg.ebpk (h:Eg w eb k M):k.vp.ownBlock≠some eb:=aH0 h.pk h.box d7
theorem Eg.nbpk (h:Eg w eb k M):k.vp.ownBlock≠some k.nb:=aH0 h.pk h.bn d7
theorem Eg.pkbk (h:Eg w eb k M) {j:Nat} (a:k.vp.ownBlock=some j):¬k.b.foot k.bb j:=fun e=>h.bk.farAny h.pk d7 d7 d7 d7 d7 j a e
theorem Eg.ebtk (h:Eg w eb k M):eb≠k.tk:=h.tkn.ne h.box
theorem Eg.nbtk (h:Eg w eb k M):k.nb≠k.tk:=h.tkn.ne h.bn
theorem Eg.pktk (h:Eg w eb k M):k.vp.ownBlock≠some k.tk:=fun a=>by
 rcases h.pk.2 with ⟨e,_⟩ | ⟨g,b,c,e,_,f,_⟩
 ·rw [e] at a;cases a
 ·rw [e] at a;have d:g=k.tk:=by simpa [Value.ownBlock] using a
  exact h.tkn.ne f d
def EgGo (w w':World) (eb:Nat) (k k':EgK) (M':Mkt):Prop:=Eg w' eb k' M'/\Out (k.foot eb) w w'/\Went w (k.foot eb) (k'.foot eb)/\k'.tb=k.tb/\k'.cb=k.cb
theorem EgGo.stay (h:Eg w eb k M) (a:Below w.heap.size w w'):EgGo w w' eb k k M:=⟨h.below a,aL a lR7,aJ _ _,rfl,rfl⟩
theorem EgGo.refl (h:Eg w eb k M):EgGo w w eb k k M:=⟨h,bL _ _,aJ _ _,rfl,rfl⟩
theorem EgGo.trans {w1 a:World} {k1 k2:EgK} {b M2:Mkt} (h:EgGo w w1 eb k k1 b) (h1:EgGo w1 a eb k1 k2 M2):EgGo w a eb k k2 M2:=⟨h1.1,h.2.1.trans h1.2.1 h.2.2.1,h.2.2.1.trans h1.2.2.1 h.2.1.size,h1.2.2.2.1.trans h.2.2.2.1,h1.2.2.2.2.trans h.2.2.2.2⟩
theorem EgGo.bel {w1 a:World} {k1:EgK} {M1:Mkt} (h:EgGo w w1 eb k k1 M1) (h1:Below w1.heap.size w1 a):EgGo w a eb k k1 M1:=h.trans (EgGo.stay h.1 h1)
theorem Eg.write (h:Eg w eb k M) {M':Mkt} {j:Nat} {u:Value} (p:(egV k M).setIfInBounds j u=egV k M') (h1:M'.rs=M.rs) (l:M'.L=M.L) (m:M'.P=M.P) (n:M'.I=M.I) (o:M'.st=M.st/\M'.dy=M.dy/\M'.an=M.an/\M'.la=M.la):
  EgGo w (w.setCell ⟨eb,j,none⟩ u) eb k k M':=by
 have a:=aM0 w ⟨eb,j,none⟩ u;have b:=aJ0 (j:=j) u h.box;rw [p] at b;obtain ⟨c,d,f,g⟩:=o;refine ⟨⟨b,?_,aT h.tlt a.size,?_,h.bk.out a (fun i hi e=>h.ebbk (by rw [<-show i=eb from e];exact hi)),by rw [l];exact h.lnk,?_,?_,h.tkf,h.few,h.far⟩,?_,aJ _ _,rfl,rfl⟩
 ·rw [h1];exact ⟨cH0 h.tab.1 a (fun e=>h.far _ (aH rfl) (aH e)),cX0 h.tab.2 a (fun e=>h.far _ (aG rfl) (aH e))⟩
 ·rw [c,d,f,g];exact aF0 h.bn a (fun e=>h.ebnb e.symm)
 ·rw [m];exact aK0 h.pk a (fun i hi e=>h.ebpk (by rw [<-show i=eb from e];exact hi))
 ·rw [n];exact h.tkn.same (a.block _ h.tkn.lt (fun e=>h.ebtk e.symm))
 ·exact ⟨a.os,a.tape,a.output,a.size,fun i hi q=>a.block i hi (fun e=>q (aH e))⟩
theorem Eg.ofBook (h:Eg w eb k M) {m':Nat} {b':BkS} {L':List Ord} (g:Goes w w' k.bb m' k.b b') (l:Lnk b'.S L') (o:k.m<=m'):EgGo w w' eb k { k with m:=m',b:=b' } { M with L:=L' }:=by
 obtain ⟨f,a,d⟩:=g;refine ⟨⟨aF0 h.box a h.ebbk,⟨cH0 h.tab.1 a (fun e=>h.far _ (aH rfl) (aG (aG (aH e)))),cX0 h.tab.2 a (fun e=>h.far _ (aG rfl) (aG (aG (aH e))))⟩,aT h.tlt a.size,aF0 h.bn a h.nbbk,f,l,aK0 h.pk a (fun j c=>h.pkbk c),h.tkn.same (a.block _ h.tkn.lt h.tkf),fun e=>?_,aI h.few o,fun j c e=>?_⟩,?_,?_,rfl,rfl⟩
 ·rcases d _ e with e | e
  ·exact h.tkf e
  ·have q:w.heap.size<=k.tk:=e;have:=h.tkn.lt;omega
 ·have n:j<w.heap.size:=by
   rcases c with rfl | rfl
   ·exact h.tlt'
   ·exact h.tlt
  rcases e with e | e | e | e | e
  ·exact h.far j c (aH e)
  ·exact h.far j c (aG (aH e))
  ·rcases d j e with e | e
   ·exact h.far j c (aG (aG (aH e)))
   ·omega
  ·exact h.far j c (aG (aG (aG (aH e))))
  ·exact h.far j c (aG (aG (aG (aG e))))
 ·exact ⟨a.os,a.tape,a.output,a.size,fun i hi p=>a.block i hi (fun e=>p (aG (aG (aH e))))⟩
 ·intro j c;rcases c with e | e | e | e | e
  ·exact aH (aH e)
  ·exact aH (aG (aH e))
  ·exact (d j e).imp (fun e=>aG (aG (aH e))) id
  ·exact aH (aG (aG (aG (aH e))))
  ·exact aH (aG (aG (aG (aG e))))
theorem Eg.ofBands (h:Eg w eb k M) {b c:Int} (f:BnAt w' k.nb M.st M.dy b c) (a:Out (fun j=>j=k.nb) w w'):EgGo w w' eb k k { M with an:=b,la:=c }:=by
 refine ⟨⟨aF0 h.box a h.ebnb,⟨cH0 h.tab.1 a (fun e=>h.far _ (aH rfl) (aG (aH e))),cX0 h.tab.2 a (fun e=>h.far _ (aG rfl) (aG (aH e)))⟩,aT h.tlt a.size,f,h.bk.out a (fun j d e=>h.nbbk (by rw [<-show j=k.nb from e];exact d)),h.lnk,aK0 h.pk a (fun j d e=>h.nbpk (by rw [<-show j=k.nb from e];exact d)),h.tkn.same (a.block _ h.tkn.lt (fun e=>h.nbtk e.symm)),h.tkf,h.few,h.far⟩,?_,aJ _ _,rfl,rfl⟩;exact ⟨a.os,a.tape,a.output,a.size,fun i hi g=>a.block i hi (fun e=>g (aG (aH e)))⟩
theorem Eg.ofTaken (h:Eg w eb k M) {id:Int} (f:lE0 w' k.tk (k.n+1) (M.I++[id])) (a:Out (fun j=>j=k.tk) w w') (c:k.m+1<=900000):EgGo w w' eb k { k with m:=k.m+1,n:=k.n+1 } { M with I:=M.I++[id] }:=by
 refine ⟨⟨aF0 h.box a h.ebtk,⟨cH0 h.tab.1 a (fun e=>h.far _ (aH rfl) (aG (aG (aG (aG e))))),cX0 h.tab.2 a (fun e=>h.far _ (aG rfl) (aG (aG (aG (aG e)))))⟩,aT h.tlt a.size,aF0 h.bn a h.nbtk,(h.bk.out a (fun j b e=>h.tkf (by rw [<-show j=k.tk from e];exact b))).more (Nat.le_succ _) c,h.lnk,aK0 h.pk a (fun j b e=>h.pktk (by rw [<-show j=k.tk from e];exact b)),f,h.tkf,Nat.succ_le_succ h.few,h.far⟩,?_,aJ _ _,rfl,rfl⟩;exact ⟨a.os,a.tape,a.output,a.size,fun i hi d=>a.block i hi (fun e=>d (aG (aG (aG (aG e)))))⟩
end
end
section
open Go.RowKit
set_option linter.unusedSimpArgs false
def ErrE (err:Value) (n:Int):Prop:=(err=.nilIface/\n=0)\/(err=.iface 26 (U G n)/\n≠0)
theorem ErrE.yes {n:Int} (h:n=0):ErrE .nilIface n:=aH ⟨rfl,h⟩
theorem ErrE.no {n:Int} (v:Int) (h:n=v) (a:v≠0):ErrE (.iface 26 (U G v)) n:=aG ⟨by rw [h],by rw [h];exact a⟩
theorem aW2 (a:Nat) (k:EgK) (M:Mkt) (w:World) (h:Eg w a k M):
  Calls prog 75 #[E (some ⟨a,0,none⟩)] w fun e w'=>e=Y (U G M.ph)/\w'=w:=by
 have b:w.cell? ⟨a,5,none⟩=some (U G M.ph):=aA0 (j:=5) h.box rfl;clear h;go_enter func75,ntmps75;go_wp2;go_ret;exact ⟨rfl,rfl⟩
theorem hY2 (a:Nat) (k:EgK) (M:Mkt) (w:World) (h:Eg w a k M):
  Calls prog 72 #[E (some ⟨a,0,none⟩)] w fun e w'=>e=Y (U G M.now)/\w'=w:=by
 have b:w.cell? ⟨a,6,none⟩=some (U G M.now):=aA0 (j:=6) h.box rfl;clear h;go_enter func72,ntmps72;go_wp2;go_ret;exact ⟨rfl,rfl⟩
theorem eV2 (l:Nat) (k:EgK) (M:Mkt) (w:World) (h:Eg w l k M):
  Calls prog 77 #[E (some ⟨l,0,none⟩)] w fun e w'=>e=Y (.tuple #[U G M.an,U G M.la])/\Below w.heap.size w w':=by
 have k1:=cell_regrown (aA0 (j:=1) (v:=E (some ⟨k.nb,0,none⟩)) h.box rfl);have m:∀a b,Calls prog 132 #[E (some ⟨k.nb,0,none⟩)] (Go.Sort.grow (redrawn w a) b) fun e c=>e=Y (U G M.an)/\∃p:Regrown,c=Go.Sort.grow (redrawn w p.d) p.os:=fun a b=>Calls.regrown_of (tW1 k.nb M.st M.dy M.an M.la _ (h.bn.below (below_regrown w a b)))
 have n:∀a b,Calls prog 128 #[E (some ⟨k.nb,0,none⟩)] (Go.Sort.grow (redrawn w a) b) fun e c=>e=Y (U G M.la)/\∃p:Regrown,c=Go.Sort.grow (redrawn w p.d) p.os:=fun a b=>Calls.regrown_of (yF1 k.nb M.st M.dy M.an M.la _ (h.bn.below (below_regrown w a b)))
 clear h;go_enter func77,ntmps77;go_wp2_with fail;refine wp_region_quiet_below k7 k7 ?_
 repeat (go_big_quiet_step (first | exact m _ _ | exact n _ _))
 refine wpQuiet_nil ?_;intro _ g;obtain ⟨⟨a,i⟩,f⟩:=g;subst f;go_wp2;go_ret2;exact ⟨rfl,below_regrown w a i⟩
theorem eW2 (f:Nat) (k:EgK) (M:Mkt) (w:World) (h:Eg w f k M):
  Calls prog 73 #[E (some ⟨f,0,none⟩)] w fun e w'=>∃err,e=Y err/\ErrE err (kQ0 M)/\EgGo w w' f k k (fY0 M):=by
 have l:w.cell? ⟨f,5,none⟩=some (U G M.ph):=aA0 (j:=5) h.box rfl;have m:=aB0 (j:=5) h.box;have H:=hid7 h;clear h
 by_cases b:M.ph=6
 ·have g:=beq_iff_eq.2 b;have a:Hid (kQ0 M=6/\fY0 M=M):=⟨by unfold kQ0;rw [aB (aH b)],by unfold fY0;rw [aB (aH b)]⟩;clear b;go_enter func73,ntmps73;go_wp2_with fail;go_ret;exact ⟨_,rfl,ErrE.no 6 a.out.1 d7,by rw [a.out.2];exact EgGo.refl H.out⟩
 ·have g:=aC.2 b
  by_cases c:M.ph=7
  ·have i:=beq_iff_eq.2 c;have a:Hid (kQ0 M=6/\fY0 M=M):=⟨by unfold kQ0;rw [aB (aG c)],by unfold fY0;rw [aB (aG c)]⟩;clear b c;go_enter func73,ntmps73;go_wp2_with fail;go_ret;exact ⟨_,rfl,ErrE.no 6 a.out.1 d7,by rw [a.out.2];exact EgGo.refl H.out⟩
  ·have i:=aC.2 c;have d:¬(M.ph=6\/M.ph=7):=fun e=>e.elim b c
   have a:Hid (kQ0 M=0/\fY0 M={ M with ph:=6 }):=⟨by unfold kQ0;rw [aA d],by unfold fY0;rw [aA d]⟩;clear b c d;go_enter func73,ntmps73;go_wp2_with fail;go_ret;exact ⟨_,rfl,ErrE.yes a.out.1,by rw [a.out.2];exact H.out.write (j:=5) (M':={ M with ph:=6 }) rfl rfl rfl rfl rfl ⟨rfl,rfl,rfl,rfl⟩⟩
theorem rC0 (a:Nat) (k:EgK) (M:Mkt) (w:World) (h:Eg w a k M) (p:0<=M.now/\M.now<=1000000000000) (q:0<=M.ti/\M.ti<=1000000000000):
  Calls prog 125 #[E (some ⟨a,0,none⟩)] w fun e w'=>e=Y (.tuple #[])/\EgGo w w' a k k (volM M):=by
 have d:w.cell? ⟨a,5,none⟩=some (U G M.ph):=aA0 (j:=5) h.box rfl;have g:=aB0 (j:=5) h.box;have h1:=h.write (j:=5) (u:=U G 4) (M':={ M with ph:=4 }) rfl rfl rfl rfl rfl ⟨rfl,rfl,rfl,rfl⟩;have wr:IntKind.i64.wrap (M.now+M.ti)=M.now+M.ti:=IntWalk.i64_in _ o7;clear h;go_enter func125,ntmps125;go_upto_region 1 with fail;generalize w.setCell ⟨a,5,none⟩ (U G 4)=w1 at h1 ⊢;have m:w1.cell? ⟨a,6,none⟩=some (U G M.now):=aA0 (j:=6) h1.1.box rfl;have d7:w1.cell? ⟨a,7,none⟩=some (U G M.ti):=aA0 (j:=7) h1.1.box rfl;have n:w1.cell? ⟨a,9,none⟩=some (U G M.en):=aA0 (j:=9) h1.1.box rfl;have f:w1.cell? ⟨a,10,none⟩=some (U G M.lo):=aA0 (j:=10) h1.1.box rfl;have o:=aB0 (j:=9) h1.1.box;have i:=aB0 (j:=10) h1.1.box;have b:=hid7 h1;clear h1 d g;go_region
 all_goals go_wp2_with fail
 all_goals refine bodyPost_end (results_none rfl _ _ _) rfl ?_
 all_goals refine ⟨rfl,b.out.trans ?_⟩
 all_goals have c:=b.out.1.drew.write (j:=9) (u:=U G (M.now+M.ti)) (M':={ M with ph:=4,en:=M.now+M.ti }) rfl rfl rfl rfl rfl ⟨rfl,rfl,rfl,rfl⟩
 all_goals have l:=c.trans (c.1.write (j:=10) (u:=U G 0) (M':=volM M) rfl rfl rfl rfl rfl ⟨rfl,rfl,rfl,rfl⟩)
 all_goals exact (EgGo.stay b.out.1 (aF _ _).drew).trans l
theorem tL0 (l:Nat) (k:EgK) (M:Mkt) (w:World) (h:Eg w l k M) (m:0<M.rs.length/\M.rs.length<=60):
  Calls prog 121 #[E (some ⟨l,0,none⟩)] w fun e w'=>e=Y (U G (phaseV M.rs M.now).1)/\Below w.heap.size w w':=by
 have o:=cell_regrown (aA0 (j:=0) (v:=E (some ⟨k.tb,0,none⟩)) h.box rfl);have q:=cell_regrown (aA0 (j:=6) (v:=U G M.now) h.box rfl);have n:∀a f,Calls prog 174 #[E (some ⟨k.tb,0,none⟩),U G M.now] (Go.Sort.grow (redrawn w a) f) fun e i=>e=Y (.tuple #[U G (phaseV M.rs M.now).1,U G (phaseV M.rs M.now).2])/\∃p:Regrown,i=Go.Sort.grow (redrawn w p.d) p.os:=fun a f=>Calls.regrown_of (nB1 k.tb M.now M.rs _ (h.table.below (below_regrown w a f) lR7) m.1 m.2)
 clear h;go_enter func121,ntmps121;go_wp2_with fail;refine wp_region_quiet_below k7 k7 ?_
 repeat (go_big_quiet_step (exact n _ _))
 refine wpQuiet_nil ?_;intro _ c;obtain ⟨⟨a,g⟩,b⟩:=c;subst b;go_wp2;go_ret;exact ⟨rfl,below_regrown w a g⟩
def oD0 (o:Ord):Bool:=(decide (1<=o.side)&& decide (o.side<=2))&& (decide (1<=o.kind)&& decide (o.kind<=4))&& decide (0<o.id)
theorem aX2 (o:Ord) (w:World):
  Calls prog 234 #[o.agg] w fun e w'=>e=Y (.bool (oD0 o))/\Below w.heap.size w w':=by
 unfold Ord.agg;go_enter func234,ntmps234;go_wp2
 all_goals (go_ret;refine ⟨sT0 ?_,bel1 _ _⟩;(first | rfl | (rw [Bool.eq_iff_iff];simp only [oD0,Bool.or_eq_true,bE,beq_iff_eq,aC,ne_eq,decide_eq_true_eq,decide_eq_false_iff_not,true_iff,Bool.false_eq_true,false_iff,iff_true,iff_false] at *;omega)))
def layL (l:List Ord) (L:List Ord):List Ord:=l.foldl (fun L o=>addL o L) L
theorem oS1 {l:List Ord} (L:List Ord) (h:i<l.length):layL (l.take (i+1)) L=addL (oAt l i) (layL (l.take i) L):=by
 unfold layL;rw [List.take_succ_eq_append_getElem h,List.foldl_append,<-eJ0 h];rfl
theorem dS0.out {S:Nat->Prop} {w w':World} {a:Option Addr} {l:List Ord} (h:dS0 w a l) (f:Out S w w') (m:∀b c,a=some ⟨b,c,none⟩->¬S b):dS0 w' a l:=fun k hk=>by
 obtain ⟨b,c,e,h0,h1,g,i,j⟩:=h k hk;have d:=m b c e;exact ⟨b,c,e,cH0 h0 f d,cH0 h1 f d,cH0 g f d,cH0 i f d,cH0 j f d⟩
theorem lF0 {e:World} {c b2:BkS} (h:Goes w w1 a m b c) (h1:Goes w1 e a d c b2):Goes w e a d b b2:=⟨h1.1,h.2.1.trans h1.2.1 h.2.2,h.2.2.trans h1.2.2 h.2.1.size⟩
theorem xR0 {c:World} {b1:BkS} (h:Goes w w1 a m b b1) (h1:Below w1.heap.size w1 c):Goes w c a m b b1:=lF0 h ⟨h.1.below h1 lR7,aL h1 lR7,aJ _ _⟩
theorem oE0 {e:World} {b1:BkS} (h:Bk w a m b) (c:Below w.heap.size w w1) (h1:Goes w1 e a d b b1):Goes w e a d b b1:=lF0 ⟨h.below c lR7,aL c lR7,aJ _ _⟩ h1
theorem uX1 (v:Nat) (k:EgK) (M:Mkt) (a:Option Addr) (Q:Nat) (l:List Ord) (w:World) (h:Eg w v k M) (z:dS0 w a l) (hw:∀o∈l,(Lit.int .i64 o.id).wf=true) (hf:∀b C,a=some ⟨b,C,none⟩->¬k.b.foot k.bb b) (hm:k.m+l.length<=900000):
  Calls prog 169 #[E (some ⟨v,0,none⟩),J a l.length Q] w fun e w'=>e=Y (.tuple #[])/\∃b',Lnk b'.S (layL l M.L)/\Goes w w' k.bb (k.m+l.length) k.b b':=by
 have H:=hid7 h;have K:=hid7 z;have HW:=hid7 hw;have HF:=hid7 hf;clear h z hw hf;go_enter func169,ntmps169;go_wp2_with fail;go_loopw [8] (fun u wr=>∃(i:Nat) (c:BkS),u=U G i/\i<=l.length/\Lnk c.S (layL (l.take i) M.L)/\Goes w wr k.bb (k.m+i) k.b c) (fun u _=>l.length - (intOf u).toNat)
 case atStart=>exact ⟨0,k.b,rfl,Nat.zero_le _,H.out.lnk,H.out.bk,bL _ _,aJ _ _⟩
 case round=>
  obtain ⟨i,c,rfl,hi,p,x⟩:=hrel;have q:=hid7 p;have F:=hid7 x
  by_cases d:i<l.length
  ·have a1:(i:Int)<(l.length:Int):=o7;obtain ⟨g,C,e1,d0,d1,d2,d3,d4⟩:=(K.out.out x.2.1 HF.out) i d;subst e1;have t:Hid ((Lit.int .i64 (oAt l i).id).wf=true):=HW.out _ (by rw [eJ0 d];exact List.getElem_mem d);have X:=hid7 (oS1 M.L d);have W:Hid (Eg wr v { k with m:=k.m+i,b:=c } { M with L:=layL (l.take i) M.L }):=(H.out.ofBook x p (bV _ _)).1;generalize oAt l i=o at d0 d1 d2 d3 d4 t X;clear x p;go_upto_region 3 with fail;have D:=heap_alloc_new wr (R #[U G o.id,U G o.side,U G o.kind,U G o.price,U G o.qty] 92);have n:=bel1 wr (R #[U G o.id,U G o.side,U G o.kind,U G o.price,U G o.qty] 92);generalize wr.alloc (R #[U G o.id,U G o.side,U G o.kind,U G o.price,U G o.qty] 92)=w1 at D n ⊢;have h1:=W.out.below n;have I:=hid7 (xR0 F.out n);have B:¬c.foot k.bb wr.heap.size:=h1.bk.farBox D d7 d7 d7 d7 d7
   have P:Hid (∀w',Out (c.foot k.bb) w1 w'->w'.cell? ⟨v,2,none⟩=some (E (some ⟨k.bb,0,none⟩))/\w'.cell? ⟨wr.heap.size,0,none⟩=some (U G o.id)/\w'.cell? ⟨wr.heap.size,1,none⟩=some (U G o.side)/\w'.cell? ⟨wr.heap.size,2,none⟩=some (U G o.kind)/\w'.cell? ⟨wr.heap.size,3,none⟩=some (U G o.price)/\w'.cell? ⟨wr.heap.size,4,none⟩=some (U G o.qty)/\Out (c.foot k.bb) w1 w'):=fun w' V=>by
    have f:=aF0 D V B;exact ⟨aA0 (j:=2) (aF0 h1.box V h1.ebbk) rfl,aA0 (j:=0) f rfl,aA0 (j:=1) f rfl,aA0 (j:=2) f rfl,aA0 (j:=3) f rfl,aA0 (j:=4) f rfl,V⟩
   have r:=hid7 h1.bk;clear D n d0 d1 d2 d3 d4 B h1 W F;have T:k.m+i+1<=900000:=o7
   go_region_held3 (fun w'=>w'.cell? ⟨v,2,none⟩=some (E (some ⟨k.bb,0,none⟩))/\w'.cell? ⟨wr.heap.size,0,none⟩=some (U G o.id)/\w'.cell? ⟨wr.heap.size,1,none⟩=some (U G o.side)/\w'.cell? ⟨wr.heap.size,2,none⟩=some (U G o.kind)/\w'.cell? ⟨wr.heap.size,3,none⟩=some (U G o.price)/\w'.cell? ⟨wr.heap.size,4,none⟩=some (U G o.qty)/\Out (c.foot k.bb) w1 w')
    ((refine P.out _ ?_;(first | exact O.out | exact bL _ _ | exact aW0 (bL _ _))))
    ((go_at_call 242;refine (uL1 (r.out.below (aF _ _).drew lR7) T q.out o t.out).mono ?_;rintro e w2 ⟨a0,rfl,_,Z,A,y⟩;have N:Hid _:=A;have s:Hid (Goes w1 w2 k.bb (k.m+i+1) c Z):=oE0 r.out (aF _ _).drew y;have O:Hid (Out (c.foot k.bb) w1 w2):=s.out.2.1;clear A y))
   go_wp2_with fail;go_roundw
   case rel=>exact ⟨i+1,Z,by go_num,d,by rw [X.out];exact N.out,lF0 I.out s.out⟩
   case measure=>first | (simp [intOf];omega) | (show l.length - (i+1)<l.length - i;omega) | omega
  ·obtain rfl:i=l.length:=o7;rw [List.take_length] at q;clear x p;go_wp2_with fail;refine bodyPost_end (results_none rfl _ _ _) rfl ?_;exact ⟨rfl,c,q.out,F.out⟩
def refN (M:Mkt) (o:Ord):Int:=if oD0 o=false then 1 else if cZ0 o.price o.qty=false then 2 else if eV0 M.ph o.kind=false then 6 else if decide (o.id∈M.I)=true then 9 else if 100<=M.L.length+M.P.length then 12 else 0
theorem kB1 (p q:Int):cZ0 p q=fA0 p q:=rfl
theorem rD0 (M:Mkt) (o:Ord):ordN M o=refN M (lieO o):=by
 have d:(lieO o).kind=o.kind:=by unfold lieO;split <;> rfl
 have e:(lieO o).qty=o.qty:=by unfold lieO;split <;> rfl
 unfold ordN refN oD0;rw [nH0,iT0,d,e,kB1]
 by_cases h1:(decide (1<=o.side)&& decide (o.side<=2))=false
 ·rw [aB (aH h1),h1];rfl
 ·have a:(decide (1<=o.side)&& decide (o.side<=2))=true:=by simpa using h1
  by_cases c:(decide (1<=o.kind)&& decide (o.kind<=4))=false
  ·rw [aB (aG (aH c)),a,c];rfl
  ·have b:(decide (1<=o.kind)&& decide (o.kind<=4))=true:=by simpa using c
   by_cases f:o.id<1
   ·rw [aB (aG (aG f)),a,b,aD o7];rfl
   ·rw [aA (by rintro (h | h | h) <;> contradiction),a,b,aE o7];simp only [decide_eq_true_eq];rfl
theorem oT1 (Z:Nat) (k:EgK) (M:Mkt) (o:Ord) (w:World) (h:Eg w Z k M) (hw:(Lit.int .i64 o.id).wf=true) (hP:M.P.length<=1000):
  Calls prog 167 #[E (some ⟨Z,0,none⟩),o.agg] w fun e w'=>e=Y (U G (refN M o))/\Below w.heap.size w w':=by
 have hL:=h.few100;have x:((k.b.S 0).length+(k.b.S 1).length:Nat)=M.L.length:=h.lnk.len.symm;have Q:=hid7 x;have HW:=hid7 hw;have H:=hid7 h;obtain ⟨pa,pc,a0,_,_⟩:=bC0 h.pk;have a2:=hid7 a0;clear h hw x a0;unfold Ord.agg;go_enter func167,ntmps167;go_upto_region 1 with fail;have hx:=heap_alloc_new w (R #[U G o.id,U G o.side,U G o.kind,U G o.price,U G o.qty] 92);have q:=bel1 w (R #[U G o.id,U G o.side,U G o.kind,U G o.price,U G o.qty] 92);generalize w.alloc (R #[U G o.id,U G o.side,U G o.kind,U G o.price,U G o.qty] 92)=w1 at hx q ⊢;have h1:=H.out.below q;have c4:w1.cell? ⟨Z,4,none⟩=some (.map (some k.tk)):=aA0 (j:=4) h1.box rfl;have x0:w1.cell? ⟨w.heap.size,0,none⟩=some (U G o.id):=aA0 (j:=0) hx rfl;have a3:(w1.alloc (R #[] 236)).cell? ⟨Z,4,none⟩=some (.map (some k.tk)):=aA0 (j:=4) (h1.below (bel1 _ _)).box rfl;have a4:(w1.alloc (R #[] 236)).cell? ⟨w.heap.size,0,none⟩=some (U G o.id):=aA0 (j:=0) (aE0 hx (bel1 _ _) lR7) rfl;have la:=(h1.below (aF _ _).drew).tkn.look HW.out;have lb:∀a,(Instr.lookup 163 (.map (some k.tk)) (U G o.id) true).run prog (w1.drew.alloc a)=.ok (.tuple #[.agg #[],.bool (decide (o.id∈M.I))]) (w1.drew.alloc a):=fun a=>((h1.below (aF _ _).drew).below (bel1 _ a)).tkn.look HW.out
 have lc:∀a,(Instr.lookup 163 (.map (some k.tk)) (U G o.id) true).run prog (w1.alloc a).drew=.ok (.tuple #[.agg #[],.bool (decide (o.id∈M.I))]) (w1.alloc a).drew:=fun a=>((h1.below (bel1 _ a)).below (aF _ _).drew).tkn.look HW.out
 have HX:Hid _:=hx;have F:=hid7 q;have H1:=hid7 h1;clear hx q h1;generalize hd:decide (o.id∈M.I)=d at la lb lc;have HD:=hid7 hd;clear hd;go_region;have h2:=(H1.out.below (bel1 _ (R #[] 236))).drew;have c:=aE0 (aE0 HX.out (bel1 _ (R #[] 236)) lR7) ((aF (w1.alloc (R #[] 236)).heap.size _).drew) lR7;have K:Hid (Below w.heap.size w (w1.alloc (R #[] 236)).drew):=(aD0 F.out (bel1 _ _)).drew;generalize (w1.alloc (R #[] 236)).drew=w2 at h2 c K ⊢;have y0:w2.cell? ⟨w.heap.size,0,none⟩=some (U G o.id):=aA0 (j:=0) c rfl;have y1:w2.cell? ⟨w.heap.size,1,none⟩=some (U G o.side):=aA0 (j:=1) c rfl;have y2:w2.cell? ⟨w.heap.size,2,none⟩=some (U G o.kind):=aA0 (j:=2) c rfl;have y3:w2.cell? ⟨w.heap.size,3,none⟩=some (U G o.price):=aA0 (j:=3) c rfl;have y4:w2.cell? ⟨w.heap.size,4,none⟩=some (U G o.qty):=aA0 (j:=4) c rfl;have H2:=hid7 h2;have V:Hid _:=c;clear h2 c c4 x0 a3 a4 la lb lc HX F H1;go_wp2_with fail;refine (aX2 o w2).mono ?_;rintro e w3 ⟨rfl,r⟩;have H3:=hid7 (H2.out.below r);have t:=aE0 V.out r lR7;have N:=hid7 (aD0 K.out r);have z3:w3.cell? ⟨w.heap.size,3,none⟩=some (U G o.price):=aA0 (j:=3) t rfl;have z4:w3.cell? ⟨w.heap.size,4,none⟩=some (U G o.qty):=aA0 (j:=4) t rfl;have W:Hid _:=t;clear r t y0 y1 y2 y3 y4 V;cases hk:oD0 o with
 | false=>
  have l:Hid (refN M o=1):=by show _=_;unfold refN;rw [aB hk]
  clear hk;go_wp2_with fail;go_ret;exact ⟨by rw [l.out];rfl,N.out⟩
 | true=>
  have HK:Hid (¬oD0 o=false):=by show ¬_;rw [hk];decide
  clear hk;go_wp2_with fail;refine (nN0 o.price o.qty w3).mono ?_;rintro e w4 ⟨rfl,s⟩;have H4:=hid7 (H3.out.below s);have X:Hid _:=aE0 W.out s lR7;have O:=hid7 (aD0 N.out s);clear s z3 z4 W;cases hr:cZ0 o.price o.qty with
  | false=>
   have l:Hid (refN M o=2):=by show _=_;unfold refN;rw [aA HK.out,aB hr]
   clear hr;go_wp2_with fail;go_ret;exact ⟨by rw [l.out];rfl,O.out⟩
  | true=>
   have B:Hid (¬cZ0 o.price o.qty=false):=by show ¬_;rw [hr];decide
   clear hr;go_upto_region 6 with fail;have k5:=cell_regrown (aA0 (j:=5) (v:=U G M.ph) H4.out.box rfl);have k2:=cell_regrown (aA0 (j:=2) (v:=U G o.kind) X.out rfl);have cT:∀f y,Calls prog 236 #[U G M.ph,U G o.kind] (Go.Sort.grow (redrawn w4 f) y) fun e D=>e=Y (.bool (eV0 M.ph o.kind))/\∃p:Regrown,D=Go.Sort.grow (redrawn w4 p.d) p.os:=fun f y=>(zX1 M.ph o.kind _).mono (fun _ _ ⟨he,hw⟩=>⟨he,⟨f,y⟩,hw⟩)
   refine wp_region_quiet_below k7 k7 ?_
   repeat (go_big_quiet_step (exact cT _ _))
   refine wpQuiet_nil ?_;intro _ C;obtain ⟨⟨f,g⟩,i⟩:=C;subst i;have H5:=hid7 (H4.out.below (below_regrown w4 f g));have n:=hid7 (aD0 O.out (below_regrown w4 f g));generalize Go.Sort.grow (redrawn w4 f) g=w5 at H5 n ⊢;clear k5 k2 cT X H4;cases ht:eV0 M.ph o.kind with
   | false=>
    have l:Hid (refN M o=6):=by show _=_;unfold refN;rw [aA HK.out,aA B.out,aB ht]
    clear ht;go_wp2_with fail;go_ret;exact ⟨by rw [l.out];rfl,n.out⟩
   | true=>
    have T:Hid (¬eV0 M.ph o.kind=false):=by show ¬_;rw [ht];decide
    clear ht;cases d with
    | true=>
     have l:Hid (refN M o=9):=by show _=_;unfold refN;rw [aA HK.out,aA B.out,aA T.out,aB HD.out]
     go_wp2_with fail;go_ret;exact ⟨by rw [l.out];rfl,n.out⟩
    | false=>
     have l:Hid (refN M o=if 100<=M.L.length+M.P.length then 12 else 0):=by show _=_;unfold refN;rw [aA HK.out,aA B.out,aA T.out,aA (by rw [HD.out];decide)]
     go_upto_region 10 with fail;have k2:=cell_regrown (aA0 (j:=2) (v:=E (some ⟨k.bb,0,none⟩)) H5.out.box rfl);have a1:w5.cell? ⟨Z,3,none⟩=some (J pa M.P.length pc):=(aA0 (j:=3) (v:=k.vp) H5.out.box rfl).trans (by rw [a2.out]);have k3:=cell_regrown a1;clear a1
     have cM:∀f y,Calls prog 237 #[E (some ⟨k.bb,0,none⟩)] (Go.Sort.grow (redrawn w5 f) y) fun e D=>e=Y (U G (M.L.length:Int))/\∃p:Regrown,D=Go.Sort.grow (redrawn w5 p.d) p.os:=fun f y=>by
      have:=Calls.regrown_of (eJ2 k.bb k.m k.b (Go.Sort.grow (redrawn w5 f) y) (H5.out.bk.below (below_regrown w5 f y) lR7));rw [Q.out] at this;exact this
     refine wp_region_quiet_below k7 k7 ?_
     repeat (go_big_quiet_step (exact cM _ _))
     refine wpQuiet_nil ?_;intro _ C;obtain ⟨⟨f,g⟩,i⟩:=C;subst i;have z:=hid7 (aD0 n.out (below_regrown w5 f g));generalize Go.Sort.grow (redrawn w5 f) g=w6 at z ⊢;clear k2 k3 cM
     by_cases u:100<=M.L.length+M.P.length
     ·have A:Hid (refN M o=12):=by show _=_;rw [l.out,aB u]
      go_wp2_with fail;go_ret;exact ⟨by rw [A.out];rfl,z.out⟩
     ·have A:Hid (refN M o=0):=by show _=_;rw [l.out,aA u]
      go_wp2_with fail;go_ret;exact ⟨by rw [A.out];rfl,z.out⟩
theorem Mp.more {w W:World} {d m m' e f B:Nat} {i g:Value} {b b':BkS} {X:List Ord} {o:Ord} {s:MS} {c:World->List Int->(Nat->Prop)->Prop} {a D:Nat->Prop} (h:Mp w W d m e f B i g b b' X o s c a D) (j:m<=m') (k:m'<=900000):Mp w W d m' e f B i g b b' X o s c a D:=
 ⟨h.old,h.row,h.box,h.res,h.bk.more j k,h.lnk,h.fils,h.told,h.out,h.went,h.dees,h.apart⟩
theorem uY1 {X:List Ord} {k:Nat} (h:k<X.length):X.drop k=oAt X k::X.drop (k+1):=by
 rw [List.drop_eq_getElem_cons h]
 congr 1
 simp [oAt,h]
theorem uZ1 (bb m:Nat) (b:BkS) (L:List Ord) (o:Ord) (ga gt:Nat) (b5 la b6 lt:Array Value) (u:List Int->Int->Bool) (St:World->List Int->(Nat->Prop)->Prop) (D:Nat->Prop) (w:World) (h:Bk w bb m b) (hm:m<=800000) (hl:Lnk b.S L) (i2:LOk L) (F:o.side=1\/o.side=2) (j6:-9223372036854775808<=o.qty/\o.qty<=9223372036854775807) (hF:StE St) (hA:AskE ga b5 la u St) (hT:TellE gt b6 lt St) (i4:St w [] D) (h3:∀j,D j->¬b.foot bb j):
  Calls prog 238 #[E (some ⟨bb,0,none⟩),.agg #[U G o.id,U G o.side,U G o.kind,U G o.price,U G o.qty],.func (.func ga) b5 la,.func (.func gt) b6 lt] w
   fun e w'=>yL1 u o L bb m b St D w e w':=by
 obtain ⟨iF,j4,j0,j1,j2⟩:=info_parts infoFp;have HA:=hid7 h;have HL:=hid7 hl;have HK:=hid7 i2;have d:=hid7 hF;have e6:=hid7 hA;have g6:=hid7 hT;have g5:=hid7 i4;have e7:=hid7 h3;have HS:=hid7 F
 obtain ⟨s0,j7,i3⟩:∃s0:Nat,s0<2/\3 - o.side=(s0:Int)+1:=by
  rcases F with e | e
  ·exact ⟨1,d7,by rw [e];rfl⟩
  ·exact ⟨0,d7,by rw [e];rfl⟩
 have g4:=hid7 i3;have j3:L.length<=100:=xN0 h.ok hl;clear h hl i2 hA hT i4 h3 F i3 hF;go_enter func238,ntmps238;go_wp2_with fail;have a0:=bel2 w (R #[U G o.id,U G o.side,U G o.kind,U G o.price,U G o.qty] 92) (R #[U G 0,U G 0,U G 0,U G 0,U G 0] 92);have c2:=gA0 w (R #[U G o.id,U G o.side,U G o.kind,U G o.price,U G o.qty] 92) (R #[U G 0,U G 0,U G 0,U G 0,U G 0] 92);have c3:=eY0 w (R #[U G o.id,U G o.side,U G o.kind,U G o.price,U G o.qty] 92) (R #[U G 0,U G 0,U G 0,U G 0,U G 0] 92);generalize (w.alloc (R #[U G o.id,U G o.side,U G o.kind,U G o.price,U G o.qty] 92)).alloc (R #[U G 0,U G 0,U G 0,U G 0,U G 0] 92)=w1 at a0 c2 c3 ⊢;refine (aQ2 o.side HS w1).mono ?_;rintro e i5 ⟨rfl,hw⟩;subst hw;go_wp2_with fail;refine (oG1 bb m s0 b L i5 (HA.below a0 lR7) HL j7 (3 - o.side) g4).mono ?_;rintro e w2 ⟨vx,rfl,e5,h4⟩;have h9:=Mp.start d HA HL g5 e7 a0 c2 c3 lR7 o7 o7 e5 h4;have f6:Hid _:=h9;have f9:Hid _:=MOk.start HK (3 - o.side) o.qty;obtain ⟨xa,xc,rfl,_,_⟩:=bC0 e5;have k5:(aR0 (3 - o.side) L).length<=L.length:=iU0 _ _;generalize hX:aR0 (3 - o.side) L=X at *;have b4:=hid7 hX;generalize i5.heap.size=B at *;clear hX e5 h4 a0 c2 c3 h9 g5 e7 g4 HA HL HK;go_wp2_with fail;go_loopw [11,13,14,21] (fun u11 _ _ u21 wr=>∃(k:Nat) (s:MS) (b':BkS) (D':Nat->Prop),u21=U G k/\k<=X.length/\cC0 u o (X.drop k) s=cC0 u o X ⟨[],L,o.qty,[]⟩/\MOk (X.drop k) s/\s.fs.length<=k/\(-9223372036854775808<=s.q/\s.q<=9223372036854775807)/\Mp w wr bb (m+k) w.heap.size (w.heap.size+1) B (J xa X.length xc) u11 b b' X o s St D D') (fun _ _ _ u21 _=>X.length - (intOf u21).toNat)
 case atStart=>exact ⟨0,_,b,D,rfl,Nat.zero_le _,rfl,f9,lR7,j6,f6⟩
 case round=>
  obtain ⟨k,s,b',D',rfl,hk,i1,i0,k6,j8,hM⟩:=hrel;have Q:=hid7 i1;have n:=hid7 hM;have f8:=hid7 i0;obtain ⟨fa,fc,rfl,_,_⟩:=bC0 hM.fils;clear i1 i0 f6 f9
  by_cases a4:k<X.length
  ·have k9:(k:Int)<(X.length:Int):=o7;obtain ⟨g,k3,e,d0,d1,d2,d3,d4⟩:=cT0 hM.row a4;injection e with e1 _ e2;subst e1 e2;have HD:Hid (X.drop k=oAt X k::X.drop (k+1)):=uY1 a4;generalize oAt X k=x at d0 d1 d2 d3 d4 HD;clear hM;go_upto_region 5 with fail;have c9:=bel1 wr (R #[U G x.id,U G x.side,U G x.kind,U G x.price,U G x.qty] 92);have r:=heap_alloc_new wr (R #[U G x.id,U G x.side,U G x.kind,U G x.price,U G x.qty] 92);have a1:=n.below d c9;generalize wr.alloc (R #[U G x.id,U G x.side,U G x.kind,U G x.price,U G x.qty] 92)=W at c9 r a1 ⊢;have hR:=n.out.res;clear c9 n d0 d1 d2 d3 d4;have j9:w.heap.size+1<wr.heap.size:=lt_of_block hR;clear hR;generalize wr.heap.size=xb at r j9 ⊢;have V:=hid7 r;have n:=hid7 a1;have x0:=aA0 (j:=0) r rfl;have x1:=aA0 (j:=1) r rfl;have x2:=aA0 (j:=2) r rfl;have x3:=aA0 (j:=3) r rfl;have x4:=aA0 (j:=4) r rfl;have c:bJ0 W w.heap.size #[U G o.id,U G o.side,U G o.kind,U G o.price,U G s.q] 92:=a1.box;have o0:=aA0 (j:=0) c rfl;have o1:=aA0 (j:=1) c rfl;have o2:=aA0 (j:=2) c rfl;have o3:=aA0 (j:=3) c rfl;have o4:=aA0 (j:=4) c rfl;clear r a1 c
   by_cases M:x.kind=2
   ·have j5:(x.kind == 2)=true:=beq_iff_eq.2 M;have i8:Hid (cC0 u o (X.drop (k+1)) s=cC0 u o X ⟨[],L,o.qty,[]⟩):=by have:=Q;rw [HD.out,jZ0 M] at this;exact this
    have a8:Hid (MOk (X.drop (k+1)) s):=by have h1:=f8;rw [HD.out] at h1;exact h1.pass
    clear M;go_wp2_with fail;go_roundw
    case rel=>exact ⟨k+1,s,b',D',by go_num,a4,i8,a8,o7,j8,n.more o7 o7⟩
    case measure=>first | (simp [intOf];omega) | (show X.length - (k+1)<X.length - k;omega) | omega
   ·have j5:(x.kind == 2)=false:=aC.2 M;have b1:=hid7 M;clear M;obtain ⟨cc,h6⟩:∃cc:Bool,(decide (s.q<1) || farB o x)=cc:=⟨_,rfl⟩;have O:Hid ((decide (s.q<1) || farB o x)=cc):=h6;clear h6;go_upto_region 6 with fail;go_cut [38] from 22 to 71 (fun u38 wc=>u38=.bool cc/\aL0 W wc)
    case first=>
     by_cases hq:s.q<1
     ·have d9:decide (s.q<1)=true:=aE hq;have a6:Hid (cc=true):=by have:=O;rw [d9,Bool.true_or] at this;exact this.symm
      go_region
      all_goals go_wp2_with fail
      all_goals go_meet
      all_goals exact ⟨by rw [a6.out],by (repeat' first | assumption | exact aF _ _ | exact lR7 | refine aV ?_ | refine aS ?_ ?_ _ | (simp;done) | (simp;omega))⟩
     ·have d9:decide (s.q<1)=false:=aD hq
      have a6:Hid (cc=!(wilP x.price (bX0 o s.q))):=by
       have:=O;rw [d9,eD] at this;show cc=!(wilP x.price o);rw [aS2 HS.out,Bool.not_not];exact this.symm
      have h5:=bel1 W (R #[U G x.price] 3);have e8:Hid (aL0 W (W.alloc (R #[U G x.price] 3)).drew):=by show Below _ _ _;(repeat' first | assumption | exact aF _ _ | exact lR7 | refine aV ?_ | refine aS ?_ ?_ _ | (simp;done) | (simp;omega))
      have i9:Hid ((W.alloc (R #[U G x.price] 3)).drew.heap[W.heap.size]? = some (R #[U G x.price] 3)):=by show _=_;rw [lB0];exact heap_alloc_new _ _
      have N:=aE0 (B:=W.heap.size) n.box h5 lR7;have p0:aC0 (W.alloc (R #[U G x.price] 3)) w.heap.size 0 (U G o.id):=aA0 (j:=0) N rfl;have p1:aC0 (W.alloc (R #[U G x.price] 3)) w.heap.size 1 (U G o.side):=aA0 (j:=1) N rfl;have p2:aC0 (W.alloc (R #[U G x.price] 3)) w.heap.size 2 (U G o.kind):=aA0 (j:=2) N rfl;have p3:aC0 (W.alloc (R #[U G x.price] 3)) w.heap.size 3 (U G o.price):=aA0 (j:=3) N rfl;have p4:aC0 (W.alloc (R #[U G x.price] 3)) w.heap.size 4 (U G s.q):=aA0 (j:=4) N rfl;clear N h5;go_region_with (first | (go_at_call 268;refine (tG0 x.price _).mono ?_;rintro e w5 ⟨rfl,rfl⟩) | (go_at_call 286;refine (eR2 x.price (bX0 o s.q) _ _ i9.out).mono ?_;rintro e w6 ⟨rfl,K⟩))
      all_goals go_wp2_with fail
      all_goals go_meet
      all_goals exact ⟨by rw [a6.out],e8.trans (K.mono e8.size)⟩
    case rest=>
     obtain ⟨rfl,d5⟩:=hcut;have c1:=n.below d d5;have A:hU0 wc xb x:=aE0 V d5 lR7;clear d5 n V x0 x1 x2 x3 x4 o0 o1 o2 o3 o4;have V:=hid7 A;have n:=hid7 c1;have x0:=aA0 (j:=0) A rfl;have x1:=aA0 (j:=1) A rfl;have x2:=aA0 (j:=2) A rfl;have x3:=aA0 (j:=3) A rfl;have x4:=aA0 (j:=4) A rfl;have c:bJ0 wc w.heap.size #[U G o.id,U G o.side,U G o.kind,U G o.price,U G s.q] 92:=c1.box;have o0:=aA0 (j:=0) c rfl;have o1:=aA0 (j:=1) c rfl;have o2:=aA0 (j:=2) c rfl;have o3:=aA0 (j:=3) c rfl;have o4:=aA0 (j:=4) c rfl;clear c1 A c;cases cc with
     | true=>
      have v:Hid (cC0 u o X ⟨[],L,o.qty,[]⟩=(s,false)):=by
       have h1:=Q.out;have h2:=O.out
       by_cases hq:s.q<1
       ·rw [eC0 o7] at h1;exact h1.symm
       ·rw [aD hq,eD] at h2;rw [HD.out,jB0 o7 b1.out h2] at h1;exact h1.symm
      go_wp2_with fail;have l:=n.out.res;have z0:=aA0 (j:=0) l rfl;have z1:=aA0 (j:=1) l rfl;have z2:=aA0 (j:=2) l rfl;have z3:=aA0 (j:=3) l rfl;have z4:=aA0 (j:=4) l rfl;have f0:=aB0 (j:=0) l;have f1:=aB0 (j:=1) l;have f2:=aB0 (j:=2) l;have f3:=aB0 (j:=3) l;have f4:=aB0 (j:=4) l;have HE:Hid (cC0 u o (aR0 (3 - o.side) L) ⟨[],L,o.qty,[]⟩=(s,false)):=by show _=_;rw [b4.out];exact v
      have i:=n.done d;unfold boxed bX0 DBox at i;have a:Hid _:=i;clear l i;go_region
      all_goals go_wp2_with fail
      all_goals generalize (((((wc.setCell ⟨w.heap.size+1,0,none⟩ (U G o.id)).setCell ⟨w.heap.size+1,1,none⟩ (U G o.side)).setCell ⟨w.heap.size+1,2,none⟩ (U G o.kind)).setCell ⟨w.heap.size+1,3,none⟩ (U G o.price)).setCell ⟨w.heap.size+1,4,none⟩ (U G s.q)).drew=wz at a ⊢
      all_goals have e0:=aA0 (j:=0) a.out.1 rfl
      all_goals have e1:=aA0 (j:=1) a.out.1 rfl
      all_goals have e2:=aA0 (j:=2) a.out.1 rfl
      all_goals have e3:=aA0 (j:=3) a.out.1 rfl
      all_goals have e4:=aA0 (j:=4) a.out.1 rfl
      all_goals refine bodyPost_ret (by simp [results,results238,go_sem,e0,e1,e2,e3,e4];try rfl) rfl ?_
      all_goals exact eI1 HE o7 a.out.2
     | false=>
      have a5:0<s.q:=by
       have h2:=O.out
       by_cases hq:s.q<1
       ·rw [aE hq,Bool.true_or] at h2;cases h2
       ·omega
      have f5:Hid (farB o x=false):=by
       have h2:=O.out;rw [Bool.or_eq_false_iff] at h2;exact h2.2
      have y:Hid (MOk (x::X.drop (k+1)) s):=by have h1:=f8;rw [HD.out] at h1;exact h1
      have Z:Hid (1<=x.price/\x.price<=1000000/\1<=x.qty/\x.qty<=1000000):=y.ok.ok x (y.here x (aK ..));go_wp2_with fail;refine (dT2 ga b5 la x.price (u s.ts x.price) wc e6.enters (fun W'=>aL0 wc W') (e6.tells n.told x.price Z.out.1 Z.out.2.1)).mono ?_;rintro e w4 ⟨rfl,c7⟩;have b8:=n.below d c7;have z:hU0 w4 xb x:=aE0 V c7 lR7;clear c7 x0 x1 x2 x3 x4 o0 o1 o2 o3 o4 n V;have V:=hid7 z;have n:=hid7 b8;have x0:=aA0 (j:=0) z rfl;have x1:=aA0 (j:=1) z rfl;have x2:=aA0 (j:=2) z rfl;have x3:=aA0 (j:=3) z rfl;have x4:=aA0 (j:=4) z rfl;have c:bJ0 w4 w.heap.size #[U G o.id,U G o.side,U G o.kind,U G o.price,U G s.q] 92:=b8.box;have o0:=aA0 (j:=0) c rfl;have o1:=aA0 (j:=1) c rfl;have o2:=aA0 (j:=2) c rfl;have o3:=aA0 (j:=3) c rfl;have o4:=aA0 (j:=4) c rfl;clear b8 z c;cases ha:u s.ts x.price with
      | false=>
       have v:Hid (cC0 u o X ⟨[],L,o.qty,[]⟩=(s,true)):=by have:=Q;rw [HD.out,gT0 a5 b1.out f5.out ha] at this;exact this.symm
       go_wp2_with fail;have l:=n.out.res;have z0:=aA0 (j:=0) l rfl;have z1:=aA0 (j:=1) l rfl;have z2:=aA0 (j:=2) l rfl;have z3:=aA0 (j:=3) l rfl;have z4:=aA0 (j:=4) l rfl;have f0:=aB0 (j:=0) l;have f1:=aB0 (j:=1) l;have f2:=aB0 (j:=2) l;have f3:=aB0 (j:=3) l;have f4:=aB0 (j:=4) l;have HE:Hid (cC0 u o (aR0 (3 - o.side) L) ⟨[],L,o.qty,[]⟩=(s,true)):=by show _=_;rw [b4.out];exact v
       have i:=n.done d;unfold boxed bX0 DBox at i;have a:Hid _:=i;clear l i;go_region
       all_goals go_wp2_with fail
       all_goals generalize (((((w4.setCell ⟨w.heap.size+1,0,none⟩ (U G o.id)).setCell ⟨w.heap.size+1,1,none⟩ (U G o.side)).setCell ⟨w.heap.size+1,2,none⟩ (U G o.kind)).setCell ⟨w.heap.size+1,3,none⟩ (U G o.price)).setCell ⟨w.heap.size+1,4,none⟩ (U G s.q)).drew=wz at a ⊢
       all_goals have e0:=aA0 (j:=0) a.out.1 rfl
       all_goals have e1:=aA0 (j:=1) a.out.1 rfl
       all_goals have e2:=aA0 (j:=2) a.out.1 rfl
       all_goals have e3:=aA0 (j:=3) a.out.1 rfl
       all_goals have e4:=aA0 (j:=4) a.out.1 rfl
       all_goals refine bodyPost_ret (by simp [results,results238,go_sem,e0,e1,e2,e3,e4];try rfl) rfl ?_
       all_goals exact eI1 HE o7 a.out.2
      | true=>
       have v:Hid (cC0 u o (X.drop (k+1)) (iN0 o x s)=cC0 u o X ⟨[],L,o.qty,[]⟩):=by have:=Q;rw [HD.out,fK0 a5 b1.out f5.out ha] at this;exact this
       have C:=y.lots a5;go_wp2_with fail;refine (oK1 (bX0 o s.q) x w4 HS).mono ?_;rintro e w5 ⟨rfl,c8⟩;obtain ⟨f,hf⟩:∃f,mK0 o x (min s.q x.qty)=f:=⟨_,rfl⟩;have h7:mK0 (bX0 o s.q) x (min (bX0 o s.q).qty x.qty)=f:=hf;have d6:f.qty=min s.q x.qty:=by rw [<-hf];unfold mK0;split <;> rfl
       rw [h7];have i6:=hid7 hf;have i7:=hid7 d6;rw [<-d6] at C;have b9:=n.below d c8;have c4:hU0 w5 xb x:=aE0 V c8 lR7;have l1:xb<w5.heap.size:=lt_of_block c4;clear c8 x0 x1 x2 x3 x4 o0 o1 o2 o3 o4 n V hf h7 d6;have V:=hid7 c4;have n:=hid7 b9;have k2:Hid (∀j,(Value.slice fa s.fs.length fc).ownBlock=some j->j<w5.heap.size):=fun j hj=>(b9.fils.lt j hj).2
       clear b9 c4;go_upto_region 10 with fail;have K:=bel1 w5 (R #[U G f.buyer,U G f.seller,U G f.price,U G f.qty] 146);have a2:=heap_alloc_new w5 (R #[U G f.buyer,U G f.seller,U G f.price,U G f.qty] 146);generalize w5.alloc (R #[U G f.buyer,U G f.seller,U G f.price,U G f.qty] 146)=w6 at K a2 ⊢;have H:Hid _:=n.below d K;have c5:hU0 w6 xb x:=aE0 V K lR7;generalize w5.heap.size=fb at *;have a7:=hid7 a2;have b3:=hid7 c5;have x0:aC0 w6 xb 0 (U G x.id):=aA0 (j:=0) c5 rfl;have f3:aC0 w6 fb 3 (U G f.qty):=aA0 (j:=3) a2 rfl;clear K a2 c5 n V;go_wp2_with fail;refine (tH0 bb (m+k) b' s.L x f.qty w6 H.bk o7 H.lnk y.ok (y.here x (aK ..)) ⟨C.1,C.2.1⟩).mono ?_;rintro e w7 ⟨k4,rfl,b2,h8,a3⟩;have a9:Hid _:=H.cut d a3 h8;have g9:hU0 w7 xb x:=aF0 b3 a3.2.1 (H.bk.farBox b3 d7 d7 d7 d7 d7);have b7:FBox w7 fb f:=aF0 a7 a3.2.1 (H.bk.farBox a7 d7 d7 d7 d7 d7);have g7:=hid7 g9;have e9:=hid7 b7;have d8:bJ0 w7 w.heap.size #[U G o.id,U G o.side,U G o.kind,U G o.price,U G s.q] 92:=a9.box;clear x0 f3 h8 a3 H b3 a7;have f3:aC0 w7 fb 3 (U G f.qty):=aA0 (j:=3) b7 rfl;have o4:=aA0 (j:=4) d8 rfl;have k0:=aB0 (j:=4) d8;have q4:IntKind.i64.wrap (s.q - f.qty)=s.q - f.qty:=IntWalk.i64_in _ o7;clear d8 g9 b7;go_upto_region 12 with fail;have c0:=a9.left d (s.q - f.qty);have c6:hU0 (w7.setCell ⟨w.heap.size,4,none⟩ (U G (s.q - f.qty))) xb x:=aF0 g7 (aM0 w7 ⟨w.heap.size,4,none⟩ (U G (s.q - f.qty))) (by show ¬xb=w.heap.size;omega);have I:FBox (w7.setCell ⟨w.heap.size,4,none⟩ (U G (s.q - f.qty))) fb f:=aF0 e9 (aM0 w7 ⟨w.heap.size,4,none⟩ (U G (s.q - f.qty))) (by show ¬fb=w.heap.size;omega);generalize w7.setCell ⟨w.heap.size,4,none⟩ (U G (s.q - f.qty))=w8 at c0 c6 I ⊢;have P:Hid _:=c0;have g8:=hid7 c6;have g0:aC0 w8 fb 0 (U G f.buyer):=aA0 (j:=0) I rfl;have g1:aC0 w8 fb 1 (U G f.seller):=aA0 (j:=1) I rfl;have g2:aC0 w8 fb 2 (U G f.price):=aA0 (j:=2) I rfl;have g3:aC0 w8 fb 3 (U G f.qty):=aA0 (j:=3) I rfl;clear f3 o4 k0 c0 c6 I a9 g7 e9;have k8:s.fs.length<=100:=o7;have l0:w.heap.size<=w8.heap.size:=P.out.out.size;go_wp2_with (at_builtin;refine wpList_append_own_at _ rfl _ _ 93 rfl w.heap.size 146 iF (.agg #[U G 0,U G 0,U G 0,U G 0]) 4 32 underlying93 j4 j0 j1 j2 rfl d7 _ s.fs.length (fV s.fs) rfl (P.out.fils.alloc _) ⟨w8.heap.size,0,none⟩ 1 1 [U G f.buyer,U G f.seller,U G f.price,U G f.qty] rfl rfl (World.news_of_block (cs:=#[U G f.buyer,U G f.seller,U G f.price,U G f.qty]) (t:=146) (fr:=(0,0)) (heap_alloc_new w8 _)) (by simp [Value.oneCell']) (by unfold maxLen;omega) o7 (by simp;omega) ?_;intro v9 w9 Y p _ _;have h0:hU0 w9 xb x:=aF0 g8.out (P.out.pushed p) (aH0 P.out.fils g8.out d7);have x9:aC0 w9 xb 3 (U G x.price):=aA0 (j:=3) h0 rfl;have b0:Hid _:=P.out.push d.out (f:=f) p Y;clear h0 Y p g0 g1 g2 g3);have k1:=y.out.one;refine (zE1 gt b6 lt x.price w9 g6.enters _ (g6.tells b0.told (by show s.ts.length<=1000;omega) x.price Z.out.1 Z.out.2.1)).mono ?_;rintro e l2 ⟨rfl,D2,ht,ho,hd⟩;have f7:Hid _:=b0.tell d ht ho hd;have a8:Hid (MOk (X.drop (k+1)) (iN0 o x s)):=y.step o a5;have T:Hid (iN0 o x s=⟨s.fs++[f],bR0 x.id f.qty s.L,s.q - f.qty,s.ts++[x.price]⟩):=by show _=_;unfold iN0;rw [i6.out,i7.out]
       clear ht ho hd b0 x9;go_wp2_with fail;go_roundw
       case rel=>
        refine ⟨k+1,iN0 o x s,b2,D2,by go_num,a4,v,a8,?_,?_,?_⟩
        ·rw [T.out];show (s.fs++[f]).length<=k+1;rw [aN,List.length_singleton];omega
        ·rw [T.out];show -9223372036854775808<=s.q - f.qty/\s.q - f.qty<=9223372036854775807;omega
        ·rw [T.out];exact f7.out
       case measure=>first | (simp [intOf];omega) | (show X.length - (k+1)<X.length - k;omega) | omega
  ·have k7:k=X.length:=o7;have c:bJ0 wr w.heap.size #[U G o.id,U G o.side,U G o.kind,U G o.price,U G s.q] 92:=hM.box;have o0:=aA0 (j:=0) c rfl;have o1:=aA0 (j:=1) c rfl;have o2:=aA0 (j:=2) c rfl;have o3:=aA0 (j:=3) c rfl;have o4:=aA0 (j:=4) c rfl;have v:Hid (cC0 u o X ⟨[],L,o.qty,[]⟩=(s,false)):=by have:=Q;rw [List.drop_eq_nil_of_le o7] at this;exact this.symm
   clear hM c;go_wp2_with fail;have l:=n.out.res;have z0:=aA0 (j:=0) l rfl;have z1:=aA0 (j:=1) l rfl;have z2:=aA0 (j:=2) l rfl;have z3:=aA0 (j:=3) l rfl;have z4:=aA0 (j:=4) l rfl;have f0:=aB0 (j:=0) l;have f1:=aB0 (j:=1) l;have f2:=aB0 (j:=2) l;have f3:=aB0 (j:=3) l;have f4:=aB0 (j:=4) l;have HE:Hid (cC0 u o (aR0 (3 - o.side) L) ⟨[],L,o.qty,[]⟩=(s,false)):=by show _=_;rw [b4.out];exact v
   have i:=n.done d;unfold boxed bX0 DBox at i;have a:Hid _:=i;clear l i;go_region
   all_goals go_wp2_with fail
   all_goals generalize (((((wr.setCell ⟨w.heap.size+1,0,none⟩ (U G o.id)).setCell ⟨w.heap.size+1,1,none⟩ (U G o.side)).setCell ⟨w.heap.size+1,2,none⟩ (U G o.kind)).setCell ⟨w.heap.size+1,3,none⟩ (U G o.price)).setCell ⟨w.heap.size+1,4,none⟩ (U G s.q)).drew=wz at a ⊢
   all_goals have e0:=aA0 (j:=0) a.out.1 rfl
   all_goals have e1:=aA0 (j:=1) a.out.1 rfl
   all_goals have e2:=aA0 (j:=2) a.out.1 rfl
   all_goals have e3:=aA0 (j:=3) a.out.1 rfl
   all_goals have e4:=aA0 (j:=4) a.out.1 rfl
   all_goals refine bodyPost_ret (by simp [results,results238,go_sem,e0,e1,e2,e3,e4];try rfl) rfl ?_
   all_goals exact eI1 HE o7 a.out.2
structure EgSt (eb pb nb:Nat) (vs:Array Value) (M:Mkt) (W:World) (ts:List Int) (D:Nat->Prop):Prop where
 bn:BnAt W nb M.st M.dy M.an (dE0 M.la ts)
 ptr:W.heap[pb]? = some (R #[E (some ⟨eb,0,none⟩)] 30 (0,0))
 box:W.heap[eb]? = some (R vs 165 (0,0))
 at1:vs[1]? = some (E (some ⟨nb,0,none⟩))
 dees:D=fun j=>j=nb\/j=pb\/j=eb
theorem eX2 (c g f:Nat) (vs:Array Value) (M:Mkt):StE (EgSt c g f vs M) where
 keep:=fun {w w' ts D S} h ho hS=>by
  have e:=h.dees;subst e;exact ⟨aF0 h.bn ho (hS _ (aH rfl)),aF0 h.ptr ho (hS _ (aG (aH rfl))),aF0 h.box ho (hS _ (aG (aG rfl))),h.at1,rfl⟩
 far:=fun {w ts D} h j hj=>by
  have e:=h.dees;subst e
  have b:∀{j:Nat} {us:Array Value} {t:TypeId},w.heap[j]? = some (R us t (0,0))->t≠92->t≠146->j<w.heap.size/\∀vs t fr,w.heap[j]? = some (R vs t fr)->t≠92/\t≠146:=fun h0 h1 d=>⟨lt_of_block h0,fun vs t' fr a=>by
   rw [h0] at a;injection a with a;injection a with _ a _;rw [<-a];exact ⟨h1,d⟩⟩
  rcases hj with rfl | rfl | rfl
  ·exact b h.bn d7 d7
  ·exact b h.ptr d7 d7
  ·exact b h.box d7 d7
theorem vA1 (b c a:Nat) (vs:Array Value) (M:Mkt):AskE 239 #[E (some ⟨a,0,none⟩)] #[] (alM M) (EgSt b c a vs M) where
 enters:=fun args w=>by rfl
 tells:=fun {W ts D} h p _ _=>tX1 a M.st M.dy M.an (dE0 M.la ts) p W h.bn
theorem eY2 (c b d:Nat) (vs:Array Value) (M:Mkt) (W:World) (ts:List Int) (D:Nat->Prop) (p:Int) (h:EgSt c b d vs M W ts D) (m:1<=p/\p<=1000000):
  Calls prog 240 #[U G p,E (some ⟨b,0,none⟩)] W fun e W'=>e=Y (.tuple #[])/\EgSt c b d vs M W' (ts++[p]) D/\Out D W W':=by
 have n:W.cell? ⟨b,0,none⟩=some (E (some ⟨c,0,none⟩)):=aA0 (j:=0) h.ptr rfl;have o:=aA0 (j:=1) h.box h.at1;have H:=hid7 h;clear h;go_enter func240,ntmps240;go_wp2_with fail;refine (aG2 d M.st M.dy M.an (dE0 M.la ts) p W H.out.bn (sP0 m)).mono ?_;rintro e w1 ⟨rfl,g,f⟩;have a:=hid7 g;have i:Hid _:=f;clear g f;go_wp2_with fail;refine bodyPost_end (results_none rfl _ _ _) rfl ?_;have e:=H.out.dees;subst e;refine ⟨rfl,⟨by rw [pJ0];exact i.out,aF0 H.out.ptr a.out (dQ0 H.out.ptr H.out.bn d7),aF0 H.out.box a.out (dQ0 H.out.box H.out.bn d7),H.out.at1,rfl⟩,?_⟩;exact ⟨a.out.os,a.out.tape,a.out.output,a.out.size,fun j k l=>a.out.block j k (fun e=>l (aH e))⟩
theorem oU1 (b a c:Nat) (vs:Array Value) (M:Mkt):TellE 240 #[] #[E (some ⟨a,0,none⟩)] (EgSt b a c vs M) where
 enters:=fun args w=>by rfl
 tells:=fun {W ts D} h _ p h1 h2=>(eY2 b a c vs M W ts D p h ⟨h1,h2⟩).mono fun _ _ ⟨he,hs,ho⟩=>⟨he,D,hs,ho,fun _ d=>aH d⟩
theorem Eg.ofMeets {w w':World} {d pb m':Nat} {k:EgK} {M:Mkt} {b':BkS} {L':List Ord} {ts:List Int} {r:Nat->Prop} (h:Eg w d k M) (g:w.heap[pb]? = some (R #[E (some ⟨d,0,none⟩)] 30 (0,0))) (l:pb≠k.tb/\pb≠k.cb)
  (c:Out (fun j=>k.b.foot k.bb j\/(j=k.nb\/j=pb\/j=d)) w w') (f:Went w (k.b.foot k.bb) (b'.foot k.bb)) (p:Bk w' k.bb m' b') (s:Lnk b'.S L') (u:k.m<=m') (o:EgSt d pb k.nb (egV k M) M w' ts r):
  Eg w' d { k with m:=m',b:=b' } { M with L:=L',la:=dE0 M.la ts }/\Out (fun j=>k.foot d j\/j=pb) w w'/\Went w (k.foot d) ({ k with m:=m',b:=b':EgK }.foot d):=by
 have q:k.vp.ownBlock≠some pb:=aH0 h.pk g d7;have n:=h.tkn.ne g;refine ⟨⟨o.box,⟨cH0 h.tab.1 c (fun e=>?_),cX0 h.tab.2 c (fun e=>?_)⟩,aT h.tlt c.size,o.bn,p,s,aK0 h.pk c (fun j a e=>?_),h.tkn.same (c.block _ h.tkn.lt (fun e=>?_)),fun e=>?_,aI h.few u,fun j a e=>?_⟩,?_,?_⟩
 ·rcases e with e | e | e | e
  ·exact h.far _ (aH rfl) (aG (aG (aH e)))
  ·exact h.far _ (aH rfl) (aG (aH e))
  ·exact l.1 e.symm
  ·exact h.far _ (aH rfl) (aH e)
 ·rcases e with e | e | e | e
  ·exact h.far _ (aG rfl) (aG (aG (aH e)))
  ·exact h.far _ (aG rfl) (aG (aH e))
  ·exact l.2 e.symm
  ·exact h.far _ (aG rfl) (aH e)
 ·rcases e with e | e | e | e
  ·exact h.pkbk a e
  ·exact h.nbpk (by rw [<-e];exact a)
  ·exact q (by rw [<-e];exact a)
  ·exact h.ebpk (by rw [<-e];exact a)
 ·rcases e with e | e | e | e
  ·exact h.tkf e
  ·exact h.nbtk e.symm
  ·exact n e.symm
  ·exact h.ebtk e.symm
 ·rcases f _ e with e | e
  ·exact h.tkf e
  ·have x:w.heap.size<=k.tk:=e;have:=h.tkn.lt;omega
 ·have t:j<w.heap.size:=by
   rcases a with rfl | rfl
   ·exact h.tlt'
   ·exact h.tlt
  rcases e with e | e | e | e | e
  ·exact h.far j a (aH e)
  ·exact h.far j a (aG (aH e))
  ·rcases f j e with e | e
   ·exact h.far j a (aG (aG (aH e)))
   ·omega
  ·exact h.far j a (aG (aG (aG (aH e))))
  ·exact h.far j a (aG (aG (aG (aG e))))
 ·refine ⟨c.os,c.tape,c.output,c.size,fun i hi v=>c.block i hi (fun e=>v ?_)⟩;rcases e with e | e | e | e
  ·exact aH (aG (aG (aH e)))
  ·exact aH (aG (aH e))
  ·exact aG e
  ·exact aH (aH e)
 ·intro j a;rcases a with e | e | e | e | e
  ·exact aH (aH e)
  ·exact aH (aG (aH e))
  ·exact (f j e).imp (fun e=>aG (aG (aH e))) id
  ·exact aH (aG (aG (aG (aH e))))
  ·exact aH (aG (aG (aG (aG e))))
theorem Eg.farFill {w:World} {f base n c:Nat} {k:EgK} {M:Mkt} {v:Value} {xs:List Value} (h:Eg w f k M) (b:w.ownsRow base 146 c v n xs):∀j,v.ownBlock=some j->¬k.foot f j:=fun j a e=>by
 rcases e with e | e | e | e | e
 ·exact aH0 b h.box d7 (by rw [a,e])
 ·exact aH0 b h.bn d7 (by rw [a,e])
 ·exact h.bk.farAny b d7 d7 d7 d7 d7 j a e
 ·exact bP0 b h.pk d7 a e
 ·rcases b.2 with ⟨d,_⟩ | ⟨g,i,l,d,_,o,_⟩
  ·rw [d] at a;cases a
  ·rw [d] at a;have m:g=j:=by simpa [Value.ownBlock] using a
   exact h.tkn.ne o (m.trans e)
def metM (M:Mkt) (o:Ord):Mkt:={ M with L:=(bN0 M o).1.L,la:=dE0 M.la (bN0 M o).1.ts }
theorem oV1 (a pb:Nat) (k:EgK) (M:Mkt) (o:Ord) (W:World) (h:Eg W a k M) (c:bJ0 W pb #[E (some ⟨a,0,none⟩)] 30) (v:pb≠k.tb/\pb≠k.cb) (J:k.m<=700000) (H:o.side=1\/o.side=2) (F:-9223372036854775808<=o.qty/\o.qty<=9223372036854775807):
  Calls prog 238 #[E (some ⟨k.bb,0,none⟩),.agg #[U G o.id,U G o.side,U G o.kind,U G o.price,U G o.qty],.func (.func 239) #[E (some ⟨k.nb,0,none⟩)] #[],.func (.func 240) #[] #[E (some ⟨pb,0,none⟩)]] W
   fun e g=>∃(l:Value) (b':BkS),e=Y (.tuple #[l,.agg #[U G o.id,U G o.side,U G o.kind,U G o.price,U G (bN0 M o).1.q],.bool (bN0 M o).2])/\g.ownsRow W.heap.size 146 4 l (bN0 M o).1.fs.length (fV (bN0 M o).1.fs)
    /\Eg g a { k with m:=k.m+100,b:=b' } (metM M o)/\Out (fun j=>k.foot a j\/j=pb) W g/\Went W (k.foot a) ({ k with m:=k.m+100,b:=b':EgK }.foot a)
    /\bJ0 g pb #[E (some ⟨a,0,none⟩)] 30
    /\∀(j:Nat) (vs:Array Value),k.vp.ownBlock≠some j->bJ0 W j vs 92->bJ0 g j vs 92:=by
 have w:EgSt a pb k.nb (egV k M) M W [] (fun j=>j=k.nb\/j=pb\/j=a):=⟨h.bn,c,h.box,rfl,rfl⟩;have u:¬k.b.foot k.bb pb:=h.bk.farBox c d7 d7 d7 d7 d7;refine (uZ1 k.bb k.m k.b M.L o _ _ _ _ _ _ (alM M) _ _ W h.bk o7 h.lnk h.lok H F (eX2 a pb k.nb (egV k M) M) (vA1 a pb k.nb (egV k M) M) (oU1 a pb k.nb (egV k M) M) w (fun j f e=>?_)).mono ?_
 ·rcases f with rfl | rfl | rfl
  ·exact h.nbbk e
  ·exact u e
  ·exact h.ebbk e
 ·rintro e g ⟨s,t,l,b',m',I,r,p,rfl,i,n,D,d,y,x,_⟩;have z:bN0 M o=(s,t):=r;unfold metM;rw [z];obtain ⟨A,B,C⟩:=h.ofMeets c v y x (n.more p o7) D (bV _ _) d;refine ⟨l,b',rfl,i,A,B,C,d.ptr,fun j vs K f=>aF0 f y (fun e=>?_)⟩;rcases e with e | e | e | e
  ·exact h.bk.farBox f d7 d7 d7 d7 d7 e
  ·exact dQ0 f h.bn d7 e
  ·exact dQ0 f c d7 e
  ·exact dQ0 f h.box d7 e
structure TrS (eb pb ob:Nat) (k:EgK) (o:Ord) (w:World):Prop where
 p0:aC0 w pb 0 (E (some ⟨eb,0,none⟩))
 e2:aC0 w eb 2 (E (some ⟨k.bb,0,none⟩))
 e1:aC0 w eb 1 (E (some ⟨k.nb,0,none⟩))
 o0:aC0 w ob 0 (U G o.id)
 o1:aC0 w ob 1 (U G o.side)
 o2:aC0 w ob 2 (U G o.kind)
 o3:aC0 w ob 3 (U G o.price)
 o4:aC0 w ob 4 (U G o.qty)
theorem iO0 {a:Addr} (h:w.cell? a=some v) (b:aL0 w w'):w'.cell? a=some v:=(b.cell (World.block_lt_of_cell? w _ h)).trans h
theorem TrS.bel {b d c:Nat} {k:EgK} {o:Ord} {w w':World} (h:TrS b d c k o w) (a:aL0 w w'):TrS b d c k o w':=
 ⟨iO0 h.p0 a,iO0 h.e2 a,iO0 h.e1 a,iO0 h.o0 a,iO0 h.o1 a,iO0 h.o2 a,iO0 h.o3 a,iO0 h.o4 a⟩
theorem eM0 {a:Addr} {lb:Nat} (h:w.cell? a=some v) (b:lb≠a.block) (u:Value):(w.setCell ⟨lb,i,none⟩ u).cell? a=some v:=cH0 h (aM0 w ⟨lb,i,none⟩ u) (fun e=>b e.symm)
theorem TrS.set {b d c lb:Nat} {k:EgK} {o:Ord} {w:World} (h:TrS b d c k o w) (a:lb≠d/\lb≠b/\lb≠c) (i:Nat) (u:Value):TrS b d c k o (w.setCell ⟨lb,i,none⟩ u):=
 ⟨eM0 h.p0 a.1 u,eM0 h.e2 a.2.1 u,eM0 h.e1 a.2.1 u,eM0 h.o0 a.2.2 u,eM0 h.o1 a.2.2 u,eM0 h.o2 a.2.2 u,eM0 h.o3 a.2.2 u,eM0 h.o4 a.2.2 u⟩
theorem TrS.open {b c a:Nat} {k:EgK} {o:Ord} {w:World} (h:TrS b c a k o w):aC0 w c 0 (E (some ⟨b,0,none⟩))/\aC0 w b 2 (E (some ⟨k.bb,0,none⟩))/\aC0 w b 1 (E (some ⟨k.nb,0,none⟩))/\aC0 w a 0 (U G o.id)/\aC0 w a 1 (U G o.side)/\aC0 w a 2 (U G o.kind)/\aC0 w a 3 (U G o.price)/\aC0 w a 4 (U G o.qty):=⟨h.p0,h.e2,h.e1,h.o0,h.o1,h.o2,h.o3,h.o4⟩
theorem Eg.farOrd {w:World} {b j:Nat} {k:EgK} {M:Mkt} {vs:Array Value} (h:Eg w b k M) (a:bJ0 w j vs 92) (c:k.vp.ownBlock≠some j):¬k.foot b j:=fun e=>by
 rcases e with e | e | e | e | e
 ·exact dQ0 a h.box d7 e
 ·exact dQ0 a h.bn d7 e
 ·exact h.bk.farBox a d7 d7 d7 d7 d7 e
 ·exact c e
 ·exact h.tkn.ne a e
theorem EgGo.boxed {w c:World} {f lb:Nat} {k k2:EgK} {M2:Mkt} {vs:Array Value} (b:EgGo w c f k k2 M2) (o:bJ0 c lb vs 92) (d:w.heap.size<=lb) (i:k2.tb≠lb/\k2.cb≠lb) (n:k2.vp.ownBlock≠some lb) (x:Ord):EgGo w (boxed c lb x) f k k2 M2:=by
 have g:=hY0 c lb x;have m:=b.1.farOrd o n;refine ⟨b.1.out g (fun j a e=>?_),b.2.1.trans g (fun j a=>aG (by rw [show j=lb from a];exact d)),b.2.2⟩;have l:j=lb:=e;subst l;rcases a with a | a | a
 ·exact m a
 ·exact i.1 a.symm
 ·exact i.2 a.symm
def vB1 (w:World) (eb:Nat) (k:EgK) (M:Mkt) (o:Ord) (u5 u6 u7:Value) (wc:World):Prop:=
 ∃(lb:Nat) (b':BkS),u6=E (some ⟨lb,0,none⟩)/\u7=.bool (bN0 M o).2/\wc.ownsRow w.heap.size 146 4 u5 (bN0 M o).1.fs.length (fV (bN0 M o).1.fs)/\hU0 wc lb (bX0 o (bN0 M o).1.q)/\w.heap.size<=lb/\EgGo w wc eb k { k with m:=k.m+100,b:=b' } (metM M o)/\bJ0 wc w.heap.size #[E (some ⟨eb,0,none⟩)] 30
theorem aY2 {a:World} {c:Nat} {k:EgK} {M:Mkt} {o:Ord} {e:Value} {b':BkS} (g:a.ownsRow w.heap.size 146 4 e (bN0 M o).1.fs.length (fV (bN0 M o).1.fs)) (d:EgGo w a c k { k with m:=k.m+100,b:=b' } (metM M o)) (f:bJ0 a w.heap.size #[E (some ⟨c,0,none⟩)] 30):
  vB1 w c k M o e (E (some ⟨a.heap.size,0,none⟩)) (.bool (bN0 M o).2) (a.alloc (R #[U G o.id,U G o.side,U G o.kind,U G o.price,U G (bN0 M o).1.q] 92)):=
 ⟨a.heap.size,b',rfl,rfl,aU0 g (bel1 _ _) lR7,heap_alloc_new a _,d.2.1.size,d.bel (bel1 _ _),aE0 f (bel1 _ _) lR7⟩
theorem aZ2 {a:World} {lb:Nat} {k:EgK} {M:Mkt} {o:Ord} {g:Value} {b':BkS} (l:a.ownsRow w.heap.size 146 4 g (bN0 M o).1.fs.length (fV (bN0 M o).1.fs)) (n:EgGo w a d k { k with m:=k.m+100,b:=b' } (metM M o)) (i:bJ0 a w.heap.size #[E (some ⟨d,0,none⟩)] 30)
  (f:ZBox a lb) (c:w.heap.size<=lb) (r:k.tb≠lb/\k.cb≠lb) (s:k.vp.ownBlock≠some lb):
  vB1 w d k M o g (E (some ⟨lb,0,none⟩)) (.bool (bN0 M o).2) (((((a.setCell ⟨lb,0,none⟩ (U G o.id)).setCell ⟨lb,1,none⟩ (U G o.side)).setCell ⟨lb,2,none⟩ (U G o.kind)).setCell ⟨lb,3,none⟩ (U G o.price)).setCell ⟨lb,4,none⟩ (U G (bN0 M o).1.q)):=
 show vB1 w d k M o g _ _ (boxed a lb (bX0 o (bN0 M o).1.q)) from ⟨lb,b',rfl,rfl,aK0 l (hY0 _ _ _) (fun j p e=>aH0 l f d7 (by rw [p];exact congrArg some e)),lX0 _ f,c,n.boxed f c r s _,aF0 i (hY0 _ _ _) (fun e=>dQ0 i f d7 e)⟩
theorem bA2 (d:Nat) (k:EgK) (M:Mkt) (o:Ord) (w:World) (h:Eg w d k M) (hm:k.m<=700000) (hs:o.side=1\/o.side=2) (hq:-9223372036854775808<=o.qty/\o.qty<=9223372036854775807) (b2:(Lit.int .i64 o.id).wf=true) (hn:0<=M.now/\M.now<=1000000000000) (ht:0<=M.ti/\M.ti<=1000000000000):
  Calls prog 168 #[E (some ⟨d,0,none⟩),o.agg] w fun e w'=>∃vf k',e=Y vf/\w'.ownsRow w.heap.size 146 4 vf (eB0 M o).1.length (fV (eB0 M o).1)/\EgGo w w' d k k' (eB0 M o).2/\k'.m<=k.m+101:=by
 have H:=hid7 h;have HS:=hid7 hs;have c3:=hid7 b2;have b7:w.heap.size≠k.tb/\w.heap.size≠k.cb:=⟨by have:=h.tlt';omega,by have:=h.tlt;omega⟩;have a8:=hid7 b7;clear h hs b2 b7;unfold Ord.agg;go_enter func168,ntmps168;go_upto_region 1 with fail;have I:=bel2 w (R #[E (some ⟨d,0,none⟩)] 30) (R #[U G o.id,U G o.side,U G o.kind,U G o.price,U G o.qty] 92);have K:=gA0 w (R #[E (some ⟨d,0,none⟩)] 30) (R #[U G o.id,U G o.side,U G o.kind,U G o.price,U G o.qty] 92);have n:=eY0 w (R #[E (some ⟨d,0,none⟩)] 30) (R #[U G o.id,U G o.side,U G o.kind,U G o.price,U G o.qty] 92);generalize (w.alloc (R #[E (some ⟨d,0,none⟩)] 30)).alloc (R #[U G o.id,U G o.side,U G o.kind,U G o.price,U G o.qty] 92)=w1 at I K n ⊢;have p:=hid7 I;have a6:Hid _:=K;have a5:Hid _:=n;have H1:=hid7 (H.below I);have b0:Hid (TrS d w.heap.size (w.heap.size+1) k o w1):=⟨aA0 (j:=0) K rfl,aA0 (j:=2) H1.box rfl,aA0 (j:=1) H1.box rfl,aA0 (j:=0) n rfl,aA0 (j:=1) n rfl,aA0 (j:=2) n rfl,aA0 (j:=3) n rfl,aA0 (j:=4) n rfl⟩;have c0:∀j,w.heap.size<=j->k.vp.ownBlock≠some j:=fun j hj e=>by have:=(H.pk.lt j e).2;omega
 have V:=hid7 c0;have y:Hid (w1.heap.size≠w.heap.size/\w1.heap.size≠d/\w1.heap.size≠w.heap.size+1):=by have a1:=lt_of_block n;have a2:=lt_of_block H.box;exact ⟨o7,o7,o7⟩
 have a4:Hid (k.tb≠w1.heap.size/\k.cb≠w1.heap.size):=by have a1:=p.size;have a2:=H.tlt;have a3:=H.tlt';exact ⟨o7,o7⟩
 clear I K n c0;go_cut [5,6,7] from 8 to 23 (fun u5 u6 u7 wc=>vB1 w d k M o u5 u6 u7 wc)
 case first=>
  go_region_held3 (fun w'=>aC0 w' w.heap.size 0 (E (some ⟨d,0,none⟩))/\aC0 w' d 2 (E (some ⟨k.bb,0,none⟩))/\aC0 w' d 1 (E (some ⟨k.nb,0,none⟩))/\aC0 w' (w.heap.size+1) 0 (U G o.id)/\aC0 w' (w.heap.size+1) 1 (U G o.side)/\aC0 w' (w.heap.size+1) 2 (U G o.kind)/\aC0 w' (w.heap.size+1) 3 (U G o.price)/\aC0 w' (w.heap.size+1) 4 (U G o.qty))
   ((refine TrS.open ?_;first | exact ((((b1.set y 0 _).set y 1 _).set y 2 _).set y 3 _).set y 4 _ | (refine b1.bel ?_;(repeat' first | assumption | exact aF _ _ | exact lR7 | refine aV ?_ | refine aS ?_ ?_ _ | (simp;done) | (simp;omega))) | (refine b0.bel ?_;(repeat' first | assumption | exact aF _ _ | exact lR7 | refine aV ?_ | refine aS ?_ ?_ _ | (simp;done) | (simp;omega)))))
   ((go_at_call 238;refine (oV1 d w.heap.size k M o _ (H1.below ?_) (aE0 a6 ?_ lR7) a8 hm HS hq).mono ?_;((repeat' first | assumption | exact aF _ _ | exact lR7 | refine aV ?_ | refine aS ?_ ?_ _ | (simp;done) | (simp;omega)));((repeat' first | assumption | exact aF _ _ | exact lR7 | refine aV ?_ | refine aS ?_ ?_ _ | (simp;done) | (simp;omega)));rintro e w2 ⟨vf,b',rfl,b9,J,b6,c1,X,l⟩;have B:=l (w.heap.size+1) _ (V _ o7) (aE0 a5 q7 lR7);have b1:Hid (TrS d w.heap.size (w.heap.size+1) k o w2):=⟨aA0 (j:=0) X rfl,aA0 (j:=2) J.box rfl,aA0 (j:=1) J.box rfl,aA0 (j:=0) B rfl,aA0 (j:=1) B rfl,aA0 (j:=2) B rfl,aA0 (j:=3) B rfl,aA0 (j:=4) B rfl⟩;have a0:Hid (EgGo w w2 d k { k with m:=k.m+100,b:=b' } (metM M o)):=⟨J,(aL (aD0 p q7) lR7).trans b6 (fun j hj=>hj.imp id (fun e=>by rw [e];exact lR7)),fun j hj=>(c1 j hj).imp id (fun e=>aI (aD0 p q7).size e),rfl,rfl⟩;have a9:Hid _:=bW0 b9 (aD0 p q7).size;have a7:Hid _:=X;(try (have f:=l w1.heap.size #[U G 0,U G 0,U G 0,U G 0,U G 0] (V _ p.size) (heap_alloc_new _ _);have z0:=aA0 (j:=0) f rfl;have z1:=aA0 (j:=1) f rfl;have z2:=aA0 (j:=2) f rfl;have z3:=aA0 (j:=3) f rfl;have z4:=aA0 (j:=4) f rfl;have y0:=aB0 (j:=0) f;have y1:=aB0 (j:=1) f;have y2:=aB0 (j:=2) f;have y3:=aB0 (j:=3) f;have y4:=aB0 (j:=4) f;have c4:Hid _:=f;clear f));clear b9 J b6 c1 X l B))
  all_goals go_wp2_with fail
  all_goals go_meet
  all_goals first | exact aZ2 (lb:=w1.heap.size) a9 a0 a7 c4 p.size a4 (V _ p.size) | exact aY2 a9 a0 a7
 case rest=>
  clear b0 a6 a5 p H1 y a4 a8;obtain ⟨lb,b',rfl,rfl,hr,D,c5,hg,hp⟩:=hcut;have z:Hid (eB0 M o=((bN0 M o).1.fs,if (bN0 M o).2=true then volM { M with L:=if 0<(bN0 M o).1.q/\o.kind≠2 then addL (bX0 o (bN0 M o).1.q) (bN0 M o).1.L else (bN0 M o).1.L,la:=dE0 M.la (bN0 M o).1.ts } else { M with L:=if 0<(bN0 M o).1.q/\o.kind≠2 then addL (bX0 o (bN0 M o).1.q) (bN0 M o).1.L else (bN0 M o).1.L,la:=dE0 M.la (bN0 M o).1.ts })):=rfl;unfold metM at hg;generalize bN0 M o=mt at hr D hg z ⊢;obtain ⟨s,t⟩:=mt;dsimp only at hr D hg z ⊢;have HR:=hid7 hr;have HX:=hid7 D;have Z:=hid7 hg;have HP:=hid7 hp;have x0:aC0 wc lb 0 (U G o.id):=aA0 (j:=0) D rfl;have x1:aC0 wc lb 1 (U G o.side):=aA0 (j:=1) D rfl;have x2:aC0 wc lb 2 (U G o.kind):=aA0 (j:=2) D rfl;have x3:aC0 wc lb 3 (U G o.price):=aA0 (j:=3) D rfl;have x4:aC0 wc lb 4 (U G s.q):=aA0 (j:=4) D rfl;have p0:aC0 wc w.heap.size 0 (E (some ⟨d,0,none⟩)):=aA0 (j:=0) hp rfl;clear hr D hg hp
  by_cases hl:0<s.q/\o.kind≠2
  ·have T:Hid (eB0 M o=(s.fs,if t=true then volM { M with L:=addL (bX0 o s.q) s.L,la:=dE0 M.la s.ts } else { M with L:=addL (bX0 o s.q) s.L,la:=dE0 M.la s.ts })):=by show _=_;rw [z.out,aB hl]
   obtain ⟨b8,l⟩:=hl;have kb:(o.kind != 2)=true:=by simpa using l
   clear l z;go_wp2_with fail;have u:=heap_alloc_new wc (R #[U G o.id,U G o.side,U G o.kind,U G o.price,U G s.q] 92);have A:=bel1 wc (R #[U G o.id,U G o.side,U G o.kind,U G o.price,U G s.q] 92);generalize wc.alloc (R #[U G o.id,U G o.side,U G o.kind,U G o.price,U G s.q] 92)=w3 at u A ⊢;have h3:=Z.out.1.below A
   have O:∀b c2,some (⟨wc.heap.size,0,none⟩:Addr)=some ⟨b,c2,none⟩->¬b'.foot k.bb b:=fun b c2 e=>by
    injection e with e;injection e with e _ _;rw [<-e];exact h3.bk.farBox u d7 d7 d7 d7 d7
   have b3:dS0 w3 (some ⟨wc.heap.size,0,none⟩) [bX0 o s.q]:=fun i hi=>by
    have e:i=0:=by simp at hi;omega
    subst e;exact ⟨wc.heap.size,0,rfl,aA0 (j:=0) u rfl,aA0 (j:=1) u rfl,aA0 (j:=2) u rfl,aA0 (j:=3) u rfl,aA0 (j:=4) u rfl⟩
   have v:=hid7 (Z.bel A);have S:Hid (w3.ownsRow w.heap.size 146 4 u5 s.fs.length (fV s.fs)):=aU0 HR A lR7;have Q:Hid _:=aE0 HP A lR7;clear u A h3 x0 x1 x2 x3 x4 p0 Z HR HP HX;refine (uX1 d { k with m:=k.m+100,b:=b' } { M with L:=s.L,la:=dE0 M.la s.ts } (some ⟨wc.heap.size,0,none⟩) 1 [bX0 o s.q] w3 v.out.1 b3 (fun x D=>by rw [List.mem_singleton.1 D];exact c3) O (by show k.m+100+1<=900000;omega)).mono ?_;rintro e P ⟨rfl,b4,b5,W⟩;have h4:=v.out.1.ofBook W b5 (bV _ _);have a:=hid7 (v.trans h4);have c:=hid7 (aK0 S h4.2.1 (v.out.1.farFill S));have F:Hid (bJ0 P w.heap.size #[E (some ⟨d,0,none⟩)] 30):=aF0 Q W.2.1 (v.out.1.bk.farBox Q d7 d7 d7 d7 d7);clear b5 W h4 v S Q b3 O;cases t with
   | true=>
    have g:Hid (eB0 M o=(s.fs,volM { M with L:=addL (bX0 o s.q) s.L,la:=dE0 M.la s.ts })):=by show _=_;rw [T.out];rfl
    have p4:aC0 P w.heap.size 0 (E (some ⟨d,0,none⟩)):=aA0 (j:=0) F rfl;go_wp2_with fail;refine (rC0 d { k with m:=k.m+100+1,b:=b4 } { M with L:=addL (bX0 o s.q) s.L,la:=dE0 M.la s.ts } P a.out.1 hn ht).mono ?_;rintro e w5 ⟨rfl,C⟩;have N:=hid7 C;have r:=hid7 (aK0 c C.2.1 (a.out.1.farFill c));clear C;go_wp2_with fail;go_ret;rw [g.out]
    first | exact ⟨u5,_,rfl,r,a.trans N,(by show k.m+100+1<=k.m+101;omega)⟩ | exact ⟨u5,rfl,r,_,a.trans N,(by show k.m+100+1<=k.m+101;omega)⟩
   | false=>
    have g:Hid (eB0 M o=(s.fs,{ M with L:=addL (bX0 o s.q) s.L,la:=dE0 M.la s.ts })):=by show _=_;rw [T.out];rfl
    go_wp2_with fail;go_ret;rw [g.out]
    first | exact ⟨u5,_,rfl,c,a,(by show k.m+100+1<=k.m+101;omega)⟩ | exact ⟨u5,rfl,c,_,a,(by show k.m+100+1<=k.m+101;omega)⟩
  ·have T:Hid (eB0 M o=(s.fs,if t=true then volM { M with L:=s.L,la:=dE0 M.la s.ts } else { M with L:=s.L,la:=dE0 M.la s.ts })):=by show _=_;rw [z.out,aA hl]
   clear z HX;generalize wc=P at Z HR HP x0 x1 x2 x3 x4 p0 ⊢;have a:=hid7 Z;have c:=hid7 HR;have F:=hid7 HP;clear Z HR HP
   by_cases b8:0<s.q
   ·have l:o.kind=2:=Classical.byContradiction (fun e=>hl ⟨b8,e⟩);have kb:(o.kind != 2)=false:=by simp [l]
    clear l hl;cases t with
    | true=>
     have g:Hid (eB0 M o=(s.fs,volM { M with L:=s.L,la:=dE0 M.la s.ts })):=by show _=_;rw [T.out];rfl
     have p4:aC0 P w.heap.size 0 (E (some ⟨d,0,none⟩)):=aA0 (j:=0) F rfl;go_wp2_with fail;refine (rC0 d { k with m:=k.m+100,b:=b' } { M with L:=s.L,la:=dE0 M.la s.ts } P a.out.1 hn ht).mono ?_;rintro e w5 ⟨rfl,C⟩;have N:=hid7 C;have r:=hid7 (aK0 c C.2.1 (a.out.1.farFill c));clear C;go_wp2_with fail;go_ret;rw [g.out]
     first | exact ⟨u5,_,rfl,r,a.trans N,(by show k.m+100<=k.m+101;omega)⟩ | exact ⟨u5,rfl,r,_,a.trans N,(by show k.m+100<=k.m+101;omega)⟩
    | false=>
     have g:Hid (eB0 M o=(s.fs,{ M with L:=s.L,la:=dE0 M.la s.ts })):=by show _=_;rw [T.out];rfl
     go_wp2_with fail;go_ret;rw [g.out]
     first | exact ⟨u5,_,rfl,c,a,(by show k.m+100<=k.m+101;omega)⟩ | exact ⟨u5,rfl,c,_,a,(by show k.m+100<=k.m+101;omega)⟩
   ·clear hl;cases t with
    | true=>
     have g:Hid (eB0 M o=(s.fs,volM { M with L:=s.L,la:=dE0 M.la s.ts })):=by show _=_;rw [T.out];rfl
     have p4:aC0 P w.heap.size 0 (E (some ⟨d,0,none⟩)):=aA0 (j:=0) F rfl;go_wp2_with fail;refine (rC0 d { k with m:=k.m+100,b:=b' } { M with L:=s.L,la:=dE0 M.la s.ts } P a.out.1 hn ht).mono ?_;rintro e w5 ⟨rfl,C⟩;have N:=hid7 C;have r:=hid7 (aK0 c C.2.1 (a.out.1.farFill c));clear C;go_wp2_with fail;go_ret;rw [g.out]
     first | exact ⟨u5,_,rfl,r,a.trans N,(by show k.m+100<=k.m+101;omega)⟩ | exact ⟨u5,rfl,r,_,a.trans N,(by show k.m+100<=k.m+101;omega)⟩
    | false=>
     have g:Hid (eB0 M o=(s.fs,{ M with L:=s.L,la:=dE0 M.la s.ts })):=by show _=_;rw [T.out];rfl
     go_wp2_with fail;go_ret;rw [g.out]
     first | exact ⟨u5,_,rfl,c,a,(by show k.m+100<=k.m+101;omega)⟩ | exact ⟨u5,rfl,c,_,a,(by show k.m+100<=k.m+101;omega)⟩
def newM (rs:List (Int×Int)) (st dy p ti mo:Int):Mkt:=⟨rs,st,dy,p,p,ti,mo,[],[],[],1,0,0,0⟩
theorem vC1 {c:World} {l tb cb ct k n:Nat}
  (m:c.heap[l]? = some (R #[E (some ⟨tb,0,none⟩),E (some ⟨k,0,none⟩),E (some ⟨d,0,none⟩),J none 0 0,.map (some i),U G 1,U G 0,U G ti,U G mo,U G 0,U G 0] 165 (0,0)))
  (o:c.cell? ⟨tb,0,none⟩=some (J (some ⟨cb,0,none⟩) rs.length ct)/\cV0 c cb 0 rs) (u:BnAt c k st dy p p) (t:Bk c d 0 b) (y:Lnk b.S []) (v:lE0 c i 0 []) (g:tb<n/\cb<n) (r:n<=k/\n<=l/\n<=i/\n<=c.heap.size) (x:∀j,b.foot d j->n<=j) (q:¬b.foot d i):
  Eg c l ⟨tb,cb,ct,k,d,0,b,J none 0 0,i,0⟩ (newM rs st dy p ti mo)/\∀j,(⟨tb,cb,ct,k,d,0,b,J none 0 0,i,0⟩:EgK).foot l j->n<=j:=by
 have a:∀j,(⟨tb,cb,ct,k,d,0,b,J none 0 0,i,0⟩:EgK).foot l j->n<=j:=fun j f=>by
  rcases f with rfl | rfl | f | f | rfl
  ·exact r.2.1
  ·exact r.1
  ·exact x j f
  ·cases f
  ·exact r.2.2.1
 refine ⟨⟨m,o,aT g.2 r.2.2.2,u,t,y,World.ownsRow_nil _ _ _ _,v,q,lR7,fun j f e=>?_⟩,a⟩;have h1:=a j e;rcases f with s | s
 ·have w:j=tb:=s;have:=g.1;omega
 ·have w:j=cb:=s;have:=g.2;omega
theorem oW1 (w:World):lE0 (w.alloc (.map #[] 0)) w.heap.size 0 []:=by
 have:=World.ownsMap_made (H:=Unit) w prog 3 oQ1;exact ⟨_,this,fun _=>rfl⟩
theorem hZ2 {W:World} {n:Nat} (e:n=a) (h:Bk W (n+2) 0 (BkS.none_ n)):Bk W (a+2) 0 (BkS.none_ a):=by subst e;exact h
def oX1 (w:World) (rs:List (Int×Int)) (st dy p ti mo:Int) (e:Ending) (w':World):Prop:=∃(eb:Nat) (k:EgK),e=Y (.tuple #[E (some ⟨eb,0,none⟩),.nilIface])/\Eg w' eb k (newM rs st dy p ti mo)/\k.m=0/\(∀j,k.foot eb j->w.heap.size<=j)/\Below w.heap.size w w'
section
variable {w w2 w3 w4:World} {tb cb ct:Nat} {rs:List (Int×Int)} {st dy p ti mo:Int}
theorem oY1 {wf:World} {g f:Nat} (d:Below w.heap.size w w2) (k:Below w2.heap.size w2 w3) (l:Below w3.heap.size w3 w4) (e:Below w4.heap.size w4 wf) (s:w2.cell? ⟨tb,0,none⟩=some (J (some ⟨cb,0,none⟩) rs.length ct)) (t:cV0 w2 cb 0 rs) (r:tb<w2.heap.size/\cb<w2.heap.size) (o:BnAt w3 w2.heap.size st dy p p)
  (m:Bk w4 f 0 b) (C:Lnk b.S []) (A:∀j,b.foot f j->w2.heap.size<=j) (v:lE0 wf i 0 []) (x:w2.heap.size<=i) (u:¬b.foot f i) (q:w2.heap.size<=g)
  (D:wf.heap[g]? = some (R #[E (some ⟨tb,0,none⟩),E (some ⟨w2.heap.size,0,none⟩),E (some ⟨f,0,none⟩),J none 0 0,.map (some i),U G 1,U G 0,U G ti,U G mo,U G 0,U G 0] 165 (0,0))):
  oX1 w rs st dy p ti mo (Y (.tuple #[E (some ⟨g,0,none⟩),.nilIface])) wf:=by
 have c:=aD0 l e;have a:=aD0 k c;obtain ⟨y,z⟩:=vC1 (n:=w2.heap.size) D ⟨iO0 s a,t.below a lR7⟩ (o.below c) (m.below e lR7) C v r ⟨lR7,q,x,a.size⟩ A u;exact ⟨g,_,rfl,y,rfl,fun j B=>aI d.size (z j B),aD0 d a⟩
theorem iA2 (d:Below w.heap.size w w2) (a:Below w2.heap.size w2 w3) (b:Below w3.heap.size w3 w4) (k:w2.cell? ⟨tb,0,none⟩=some (J (some ⟨cb,0,none⟩) rs.length ct)) (l:cV0 w2 cb 0 rs) (g:tb<w2.heap.size/\cb<w2.heap.size) (f:BnAt w3 w2.heap.size st dy p p) (c:Bk w4 (w3.heap.size+2) 0 (BkS.none_ w3.heap.size)):
  oX1 w rs st dy p ti mo (Y (.tuple #[E (some ⟨w4.heap.size+1,0,none⟩),.nilIface])) ((w4.alloc (.map #[] 0)).alloc (R #[E (some ⟨tb,0,none⟩),E (some ⟨w2.heap.size,0,none⟩),E (some ⟨w3.heap.size+2,0,none⟩),J none 0 0,.map (some w4.heap.size),U G 1,U G 0,U G ti,U G mo,U G 0,U G 0] 165)):=by
 have i:=a.size;have n:=b.size;exact oY1 d a b (bel2 _ _ _) k l g f c Lnk.start (fun j m=>aI i (dT1 w3 m)) ((oW1 w4).same ((bel1 _ _).block _ s7)) o7 (fun e=>by have:=c.lt e;omega) o7 (eY0 _ _ _)
theorem iB2 (f:Below w.heap.size w w2) (a:Below w2.heap.size w2 w3) (b:Below w3.heap.size w3 w4) (c:Below (w3.alloc (.map #[] 0)).heap.size (w3.alloc (.map #[] 0)) w4) (n:w2.cell? ⟨tb,0,none⟩=some (J (some ⟨cb,0,none⟩) rs.length ct)) (o:cV0 w2 cb 0 rs) (m:tb<w2.heap.size/\cb<w2.heap.size) (i:BnAt w3 w2.heap.size st dy p p) (g:Bk w4 (w3.heap.size+1+2) 0 (BkS.none_ (w3.heap.size+1))):
  oX1 w rs st dy p ti mo (Y (.tuple #[E (some ⟨w4.heap.size,0,none⟩),.nilIface])) (w4.alloc (R #[E (some ⟨tb,0,none⟩),E (some ⟨w2.heap.size,0,none⟩),E (some ⟨w3.heap.size+1+2,0,none⟩),J none 0 0,.map (some w3.heap.size),U G 1,U G 0,U G ti,U G mo,U G 0,U G 0] 165)):=by
 have q:=a.size;have r:=b.size
 have d:∀{j:Nat},(BkS.none_ (w3.heap.size+1)).foot (w3.heap.size+1+2) j->w3.heap.size+1<=j:=fun {j} l=>by
  have e:(w3.alloc (.map #[] 0)).heap.size=w3.heap.size+1:=by simp
  have:=dT1 (w3.alloc (.map #[] 0)) (k:=j) (by rw [e];exact l);omega
 exact oY1 f a b (bel1 _ _) n o m i g Lnk.start (fun j l=>by have:=d l;omega) ((oW1 w3).same (((bel1 w4 _).block _ (by have:=c.size;simp at this;omega)).trans (c.block _ s7))) o7 (fun e=>by have:=d e;omega) o7 (heap_alloc_new _ _)
end
theorem vD1 (b a c:Nat) (rs:List (Int×Int)) (st dy p ti mo:Int) (w:World) (h:cV0 w b a rs) (K:zQ0 rs) (F:0<rs.length) (E:rs.length<=60) (i:tabE rs=(0,-1)) (H:nV0 st dy p=true) (a3:1<=ti/\ti<=1000000) (a2:0<=mo/\mo<=10):
  Calls prog 65 #[.agg #[J (some ⟨b,a,none⟩) rs.length c,U G st,U G dy,U G p,U G ti,U G mo]] w fun e w'=>oX1 w rs st dy p ti mo e w':=by
 have a1:=@run_makeMap prog;have Q:=hid7 h;have T:=hid7 K;have S:=hid7 i;have P:=hid7 H;clear h K i H;go_enter func65,ntmps65;go_upto_region 1 with fail;have L:=heap_alloc_new w (R #[J (some ⟨b,a,none⟩) rs.length c,U G st,U G dy,U G p,U G ti,U G mo] 29);have k:=bel1 w (R #[J (some ⟨b,a,none⟩) rs.length c,U G st,U G dy,U G p,U G ti,U G mo] 29);generalize w.alloc (R #[J (some ⟨b,a,none⟩) rs.length c,U G st,U G dy,U G p,U G ti,U G mo] 29)=w1 at L k ⊢;have W:w1.cell? ⟨w.heap.size,0,none⟩=some (J (some ⟨b,a,none⟩) rs.length c):=aA0 (j:=0) L rfl;have V:Hid _:=L;have O:=hid7 k;clear L k;go_wp2_with fail;refine (nA1 b a c rs w1 (Q.out.below O.out lR7) T.out F E).mono ?_;rintro e w2 ⟨t,a0,rfl,hN,l⟩;rcases hN with ⟨_,rfl,tb,rfl,cb,ct,o,q⟩ | ⟨h0,_⟩
 ·have d:=aE0 V.out l lR7;have r:=hid7 (aD0 O.out l);have z:=hid7 o;have A:=hid7 q
  have D:cb<w2.heap.size:=by
   have:=(q.row F).1;exact World.block_lt_of_cell? w2 _ this
  have I:tb<w2.heap.size:=World.block_lt_of_cell? w2 _ o;have y:Hid (tb<w2.heap.size/\cb<w2.heap.size):=⟨I,D⟩;have X:w2.cell? ⟨w.heap.size,1,none⟩=some (U G st):=aA0 (j:=1) d rfl;have Y:w2.cell? ⟨w.heap.size,2,none⟩=some (U G dy):=aA0 (j:=2) d rfl;have Z:w2.cell? ⟨w.heap.size,3,none⟩=some (U G p):=aA0 (j:=3) d rfl;have N:Hid _:=d;clear l d o q W D I;go_wp2_with fail;refine (gJ1 st dy p w2 P.out).mono ?_;rintro e w3 ⟨rfl,m,C⟩;have f:=aE0 N.out m lR7;have s:=hid7 m;have x:=hid7 C;have d4:w3.cell? ⟨w.heap.size,4,none⟩=some (U G ti):=aA0 (j:=4) f rfl;have d5:w3.cell? ⟨w.heap.size,5,none⟩=some (U G mo):=aA0 (j:=5) f rfl;have M:Hid (∀w',Below w3.heap.size w3 w'->w'.cell? ⟨w.heap.size,4,none⟩=some (U G ti)/\w'.cell? ⟨w.heap.size,5,none⟩=some (U G mo)/\Below w3.heap.size w3 w'):=fun w' k=>⟨aA0 (j:=4) (aE0 f k lR7) rfl,aA0 (j:=5) (aE0 f k lR7) rfl,k⟩
  clear m C f X Y Z;go_upto_region 9 with fail;clear d4 d5
  go_region_held3 (fun w'=>w'.cell? ⟨w.heap.size,4,none⟩=some (U G ti)/\w'.cell? ⟨w.heap.size,5,none⟩=some (U G mo)/\Below w3.heap.size w3 w')
   ((refine M.out _ ?_;(repeat' first | assumption | exact g.out | exact aF _ _ | refine aV ?_ | refine aS ?_ ?_ _ | exact lR7 | (simp;done) | (simp;omega) | (have h9:=g.out.size;simp at h9 ⊢;omega))))
   ((go_at_call 114;refine (eI2 _).mono ?_;rintro e w4 ⟨rfl,B,n⟩;have v:Hid _:=B;have u:Hid _:=n;have g:Hid (Below w3.heap.size w3 w4):=(aD0 q7 n);clear B n))
  all_goals go_wp2_with fail
  all_goals go_ret2
  all_goals first | exact iA2 r.out s.out g.out z.out A.out y.out x.out v.out | exact iB2 r.out s.out g.out (aD0 (aF _ _).drew u.out) z.out A.out y.out x.out (hZ2 s7 v.out)
 ·exact absurd (by rw [S.out]) h0
def mP0 (ti mo:Int):Bool:=decide (1<=ti)&& decide (ti<=1000000)&& (decide (0<=mo)&& decide (mo<=10))
def newE (rs:List (Int×Int)) (st dy p ti mo:Int):Int×Int:=if (tabE rs).1≠0 then tabE rs else if nV0 st dy p=true/\mP0 ti mo=true then (0,-1) else (2,-1)
def oZ1 (w:World) (rs:List (Int×Int)) (st dy p ti mo:Int) (e:Ending) (w':World):Prop:=∃err,e=Y (.tuple #[E none,err])/\jZ1 w' err (newE rs st dy p ti mo).1 (newE rs st dy p ti mo).2/\Below w.heap.size w w'
theorem oF0 {a:Value} (h:jZ1 w' a (newE rs st dy p ti mo).1 (newE rs st dy p ti mo).2) (b:Below w.heap.size w w'):oZ1 w rs st dy p ti mo (Y (.tuple #[E none,a])) w':=⟨a,rfl,h,b⟩
theorem kC1 (a:Option Addr) (b:Nat) (st dy p ti mo:Int) (w:World):
  Calls prog 65 #[.agg #[J a 0 b,U G st,U G dy,U G p,U G ti,U G mo]] w fun e w'=>oZ1 w [] st dy p ti mo e w':=by
 go_enter func65,ntmps65;go_upto_region 1 with fail;have d:=heap_alloc_new w (R #[J a 0 b,U G st,U G dy,U G p,U G ti,U G mo] 29);have c:=bel1 w (R #[J a 0 b,U G st,U G dy,U G p,U G ti,U G mo] 29);generalize w.alloc (R #[J a 0 b,U G st,U G dy,U G p,U G ti,U G mo] 29)=w1 at d c ⊢;have i:w1.cell? ⟨w.heap.size,0,none⟩=some (J a 0 b):=aA0 (j:=0) d rfl;have f:=hid7 c;clear d c;go_wp2_with fail;refine (mX1 a b w1).mono ?_;rintro e k ⟨rfl,g⟩;subst g;go_wp2_with fail;go_ret2;exact oF0 (aG (aH ⟨rfl,rfl⟩)) f.out
theorem vE1 (c a g:Nat) (rs:List (Int×Int)) (st dy p ti mo:Int) (w:World) (h:cV0 w c a rs) (x:zQ0 rs) (H:0<rs.length) (s:rs.length<=60) (v:(newE rs st dy p ti mo).1≠0):
  Calls prog 65 #[.agg #[J (some ⟨c,a,none⟩) rs.length g,U G st,U G dy,U G p,U G ti,U G mo]] w fun e w'=>oZ1 w rs st dy p ti mo e w':=by
 have T:=hid7 h;have V:=hid7 x;have B:=hid7 v;clear h x v;go_enter func65,ntmps65;go_upto_region 1 with fail;have A:=heap_alloc_new w (R #[J (some ⟨c,a,none⟩) rs.length g,U G st,U G dy,U G p,U G ti,U G mo] 29);have E:=bel1 w (R #[J (some ⟨c,a,none⟩) rs.length g,U G st,U G dy,U G p,U G ti,U G mo] 29);generalize w.alloc (R #[J (some ⟨c,a,none⟩) rs.length g,U G st,U G dy,U G p,U G ti,U G mo] 29)=w1 at A E ⊢;have X:w1.cell? ⟨w.heap.size,0,none⟩=some (J (some ⟨c,a,none⟩) rs.length g):=aA0 (j:=0) A rfl;have W:Hid _:=A;have M:=hid7 E;clear A E;go_wp2_with fail;refine (nA1 c a g rs w1 (T.out.below M.out lR7) V.out H s).mono ?_;rintro e y ⟨t,D,rfl,hN,k⟩;have m:=hid7 (aD0 M.out k);rcases hN with ⟨z,rfl,tb,rfl,cb,ct,I,K⟩ | ⟨h0,rfl,F⟩
 ·have l:=aE0 W.out k lR7;have Y:y.cell? ⟨w.heap.size,1,none⟩=some (U G st):=aA0 (j:=1) l rfl;have Z:y.cell? ⟨w.heap.size,2,none⟩=some (U G dy):=aA0 (j:=2) l rfl;have c3:y.cell? ⟨w.heap.size,3,none⟩=some (U G p):=aA0 (j:=3) l rfl;have C:Hid _:=l
  have o:Hid (newE rs st dy p ti mo=if nV0 st dy p=true/\mP0 ti mo=true then (0,-1) else (2,-1)):=by
   show _=_;unfold newE;rw [aA (by rw [z];decide)]
  clear k l I K X z;go_wp2_with fail;cases hok:nV0 st dy p with
  | false=>
   have f:Hid (newE rs st dy p ti mo=(2,-1)):=by show _=_;rw [o.out,aA (by rw [hok];rintro ⟨e,_⟩;cases e)]
   refine (tV1 st dy p y hok).mono ?_;rintro e L ⟨rfl,i⟩;have d:=hid7 (aD0 m.out i);clear i hok;go_wp2_with fail;go_ret2;exact oF0 (by rw [f.out];exact aG (aH ⟨rfl,rfl⟩)) d.out
  | true=>
   have N:Hid (mP0 ti mo=false):=by
    show _=_;cases z:mP0 ti mo with
    | false=>rfl
    | true=>exact absurd (by rw [o.out,aB ⟨hok,z⟩]) B.out
   have f:Hid (newE rs st dy p ti mo=(2,-1)):=by show _=_;rw [o.out,aA (by rw [N.out];rintro ⟨_,e⟩;cases e)]
   refine (gJ1 st dy p y hok).mono ?_;rintro e L ⟨rfl,i,_⟩;have n:=aE0 C.out i lR7;have d:=hid7 (aD0 m.out i);have d4:L.cell? ⟨w.heap.size,4,none⟩=some (U G ti):=aA0 (j:=4) n rfl;have d5:L.cell? ⟨w.heap.size,5,none⟩=some (U G mo):=aA0 (j:=5) n rfl;clear i n Y Z c3 hok
   have r:ti<1\/1000000<ti\/mo<0\/10<mo:=by
    have h:=N.out;unfold mP0 at h
    by_cases O:ti<1
    ·exact aH O
    by_cases P:1000000<ti
    ·exact aG (aH P)
    by_cases Q:mo<0
    ·exact aG (aG (aH Q))
    by_cases S:10<mo
    ·exact aG (aG (aG S))
    rw [aE (show (1:Int)<=ti by omega),aE (show ti<=1000000 by omega),aE (show (0:Int)<=mo by omega),aE (show mo<=10 by omega)] at h;cases h
   by_cases O:ti<1
   ·go_wp2_with fail;go_ret2;exact oF0 (by rw [f.out];exact aG (aH ⟨rfl,rfl⟩)) d.out
   by_cases P:ti>1000000
   ·go_wp2_with fail;go_ret2;exact oF0 (by rw [f.out];exact aG (aH ⟨rfl,rfl⟩)) d.out
   by_cases Q:mo<0
   ·go_wp2_with fail;go_ret2;exact oF0 (by rw [f.out];exact aG (aH ⟨rfl,rfl⟩)) d.out
   have S:mo>10:=o7;clear r;go_wp2_with fail;go_ret2;exact oF0 (by rw [f.out];exact aG (aH ⟨rfl,rfl⟩)) d.out
 ·have o:Hid (newE rs st dy p ti mo=tabE rs):=by
   show _=_;unfold newE;rw [aB h0]
  have q:=hid7 (eU2 F)
  have u:D≠.nilIface:=by
   rcases F with ⟨_,e⟩ | ⟨b,e,_⟩
   ·rw [e];intro h;cases h
   ·rw [e];intro h;cases h
  rcases F with ⟨_,rfl⟩ | ⟨b,rfl,_⟩
  ·clear k h0 u;go_wp2_with fail;go_ret2;exact oF0 (by rw [o.out];exact q.out) m.out
  ·clear k h0 u;go_wp2_with fail;go_ret2;exact oF0 (by rw [o.out];exact q.out) m.out
def in64 (z:Int):Prop:=-9223372036854775808<=z/\z<=9223372036854775807
def filI (f:Fil):Prop:=in64 f.buyer/\in64 f.seller/\in64 f.price/\in64 f.qty
def kU0 (o:Ord):Prop:=in64 o.id/\in64 o.kind/\in64 o.price/\in64 o.qty
def rowT (l:List Int):List UInt8:=Lib.join (l.map Lib.itoa) [32]
def filT (f:Fil):List UInt8:=rowT [f.buyer,f.seller,f.price,f.qty]
def ordT (o:Ord):List UInt8:=rowT [o.id,o.kind,o.price,o.qty]
def iP0 (t:List UInt8) (fs:List Fil):List UInt8:=Lib.join (t::fs.map filT) [44,32]
def pN0 (l:List Ord):List UInt8:=Lib.join (l.map ordT) [44,32]
def errT (n:Int):List UInt8:=[101,114,114,111,114,32]++Lib.itoa n
def phT (p:Int):List UInt8:=
 if p=1 then [112,114,101,111,112,101,110] else if p=2 then [111,112,101,110,105,110,103] else if p=3 then [116,114,97,100,105,110,103]
 else if p=4 then [118,111,108,97,116,105,108,105,116,121] else if p=5 then [99,108,111,115,105,110,103] else if p=6 then [104,97,108,116] else [101,110,100,101,100]
def eZ2:List UInt8:=[97,117,99,116,105,111,110,32,98,97,110,100,32,98,97,110,100,115,32,98,117,121,32,99,97,110,99,101,108,32,99,108,101,97,114,32,104,97,108,116,32,104,101,108,112,32,111,112,101,110,32,111,114,100,101,114,115,32,112,97,114,107,101,100,32,112,104,97,115,101,32,113,117,111,116,101,32,114,101,102,115,32,115,101,108,108,32,115,116,97,114,116,32,116,97,98,108,101,32,116,105,99,107]
structure DsS where
 rs:List (Int×Int)
 st:Int
 dy:Int
 pr:Int
 ti:Int
 mo:Int
 mkt:Option Mkt
def DsS.zero:DsS:=⟨[],0,0,0,0,0,none⟩
def mQ0:List (List UInt8×Int×Int):=
 [([116,97,98,108,101],-1,1),([98,97,110,100,115],3,1),([97,117,99,116,105,111,110],2,1),([115,116,97,114,116],0,1),
  ([98,117,121],4,2),([115,101,108,108],4,2),([99,97,110,99,101,108],1,2),([116,105,99,107],0,2),([104,97,108,116],0,2),([111,112,101,110],0,2),
  ([112,104,97,115,101],0,2),([113,117,111,116,101],0,2),([114,101,102,115],0,2),([111,114,100,101,114,115],1,2),([112,97,114,107,101,100],0,2),
  ([98,97,110,100],2,0),([99,108,101,97,114],0,0),([104,101,108,112],0,0)]
def jS0 (w:List UInt8):Option Nat:=mQ0.findIdx? (fun x=>x.1 == w)
def cE0 (d:Nat):Int:=(mQ0.getD d ([],0,0)).2.1
def iQ0 (d:Nat):Int:=(mQ0.getD d ([],0,0)).2.2
def eZ0 (d:Nat):List UInt8:=(mQ0.getD d ([],0,0)).1
def kT0 (b:Int) (n:Nat):Bool:=if b=-1 then decide ((n:Int) % 2=0) else decide ((n:Int)=b)
def mayD (t:Int) (H:DsS):Bool:=if t=1 then H.mkt.isNone else if t=2 then H.mkt.isSome else true
def numB (s:ByteArray):Option Int:=
 match Lib.parseIntB 64 s.data.toList with
 | .ok v=>if Lib.itoa v=s.data.toList then some v else none
 | _=>none
def gD0:List ByteArray->Option (List Int)
 | []=>some []
 | s::ws=>match numB s with
  | none=>none
  | some n=>match gD0 ws with
   | none=>none
   | some l=>some (n::l)
def dI0:List Int->List (Int×Int)
 | a::b::l=>(a,b)::dI0 l
 | _=>[]
def nI (l:List Int) (k:Nat):Int:=l.getD k 0
def ordI (side:Int) (l:List Int):Ord:=⟨nI l 0,side,nI l 1,nI l 2,nI l 3⟩
def orE (e:Int) (t:List UInt8):Int×List UInt8:=if e=0 then (0,t) else (e,[])
def cK0 (d:Nat) (l:List Int) (M:Mkt):(Int×List UInt8)×Mkt:=
 match d with
 | 4=>(orE (ordN M (ordI 1 l)) (iP0 [116,97,107,101,110] (ordM M (ordI 1 l)).1),(ordM M (ordI 1 l)).2)
 | 5=>(orE (ordN M (ordI 2 l)) (iP0 [116,97,107,101,110] (ordM M (ordI 2 l)).1),(ordM M (ordI 2 l)).2)
 | 6=>(orE (kB0 M (nI l 0)) (eZ0 6),canM M (nI l 0))
 | 7=>(orE (pK0 M) (iP0 (rowT [(bT0 M).2.now]) (bT0 M).1),(bT0 M).2)
 | 8=>(orE (kQ0 M) (eZ0 8),fY0 M)
 | 9=>(orE (kD0 M) (eZ0 9),eA0 M)
 | 10=>((0,phT M.ph),M)
 | 11=>((0,rowT [(cW0 M).price,(cW0 M).qty,(cW0 M).sur]),M)
 | 12=>((0,rowT [M.an,M.la]),M)
 | 13=>(if nI l 0=1\/nI l 0=2 then (0,pN0 (aR0 (nI l 0) M.L)) else (1,[]),M)
 | _=>((0,pN0 M.P),M)
def aZ0 (d:Nat) (l:List Int) (H:DsS):(Int×List UInt8)×DsS:=
 match d with
 | 0=>((0,eZ0 0),{ H with rs:=dI0 l })
 | 1=>((0,eZ0 1),{ H with st:=nI l 0,dy:=nI l 1,pr:=nI l 2 })
 | 2=>((0,eZ0 2),{ H with ti:=nI l 0,mo:=nI l 1 })
 | 3=>if (newE H.rs H.st H.dy H.pr H.ti H.mo).1=0 then ((0,eZ0 3),{ H with mkt:=some (newM H.rs H.st H.dy H.pr H.ti H.mo) }) else (((newE H.rs H.st H.dy H.pr H.ti H.mo).1,[]),H)
 | 15=>(orE (mZ0 (nI l 0) (nI l 1)) (rowT [bandL (nI l 0) (nI l 1),bandH (nI l 0) (nI l 1)]),H)
 | 16=>((0,eZ0 16),DsS.zero)
 | 17=>((0,eZ2),H)
 | d=>match H.mkt with
  | none=>((6,[]),H)
  | some M=>((cK0 d l M).1,{ H with mkt:=some (cK0 d l M).2 })
def fR0 (s:ByteArray):List ByteArray:=Lib.goFieldsP (fun r=>r == 32) s
def dC0 (s:ByteArray) (H:DsS):(Int×List UInt8)×DsS:=
 match fR0 s with
 | []=>((0,[111,107]),H)
 | w::ws=>match jS0 w.data.toList with
  | none=>((3,[]),H)
  | some d=>if kT0 (cE0 d) ws.length=false then ((3,[]),H) else match gD0 ws with
   | none=>((3,[]),H)
   | some l=>if mayD (iQ0 d) H=false then ((6,[]),H) else aZ0 d l H
def ansT (r:Int×List UInt8):List UInt8:=if r.1=0 then r.2 else errT r.1
def iR0:List ByteArray->DsS->List UInt8
 | [],_=>[]
 | s::ls,H=>ansT (dC0 s H).1++[10]++iR0 ls (dC0 s H).2
def gU0:List ByteArray->DsS->DsS
 | [],H=>H
 | s::ls,H=>gU0 ls (dC0 s H).2
theorem lG0:∀(a b:List ByteArray) (H:DsS),iR0 (a++b) H=iR0 a H++iR0 b (gU0 a H)
 | [],_,_=>rfl
 | s::a,b,H=>by
  show ansT (dC0 s H).1++[10]++iR0 (a++b) _=ansT (dC0 s H).1++[10]++iR0 a _++iR0 b _;rw [lG0 a b];simp [gU0]
theorem lH0:∀(a b:List ByteArray) (H:DsS),gU0 (a++b) H=gU0 b (gU0 a H)
 | [],_,_=>rfl
 | _::a,b,_=>lH0 a b _
def iH0:List UInt8->List UInt8×List UInt8×Bool
 | []=>([],[],false)
 | c::s=>if c == 10 then ([],s,true) else (c::(iH0 s).1,(iH0 s).2.1,(iH0 s).2.2)
def bH0:List UInt8->List (List UInt8)
 | []=>[[]]
 | c::s=>if c == 10 then []::bH0 s else match bH0 s with
  | []=>[[c]]
  | x::xs=>(c::x)::xs
theorem kF0 (s:List UInt8):bH0 s≠[]:=by
 cases s with
 | nil=>simp [bH0]
 | cons c s=>
  unfold bH0;split
  ·simp
  ·split <;> simp
theorem tM0:∀s:List UInt8,bH0 s=(iH0 s).1::(if (iH0 s).2.2=true then bH0 (iH0 s).2.1 else [])
 | []=>rfl
 | c::s=>by
  have a:bH0 (c::s)=if c == 10 then []::bH0 s else match bH0 s with | []=>[[c]] | x::xs=>(c::x)::xs:=rfl
  have b:iH0 (c::s)=if c == 10 then ([],s,true) else (c::(iH0 s).1,(iH0 s).2.1,(iH0 s).2.2):=rfl
  rw [a,b]
  by_cases h:(c == 10)=true
  ·rw [aB h,aB h];rfl
  ·rw [aA h,aA h,tM0 s]
theorem tN0:∀a b:List UInt8,bH0 (a++10::b)=bH0 a++bH0 b
 | [],b=>rfl
 | c::a,b=>by
  have d:∀t,bH0 (c::t)=if c == 10 then []::bH0 t else match bH0 t with | []=>[[c]] | x::xs=>(c::x)::xs:=fun _=>rfl
  show bH0 (c::(a++10::b))=_;rw [d,d,tN0 a b]
  by_cases h:(c == 10)=true
  ·rw [aB h,aB h];rfl
  ·rw [aA h,aA h];cases e:bH0 a with
   | nil=>exact absurd e (kF0 a)
   | cons x xs=>rfl
theorem bB1:∀s:List UInt8,(iH0 s).1.length+(iH0 s).2.1.length+(if (iH0 s).2.2=true then 1 else 0)=s.length
 | []=>rfl
 | c::s=>by
  have:=bB1 s;unfold iH0
  by_cases h:(c == 10)=true
  ·rw [aB h];simp
  ·rw [aA h];simp only [List.length_cons];omega
theorem tO0:∀s:List UInt8,(Lib.indexByte s 10=-1/\iH0 s=(s,[],false))\/∃i:Nat,Lib.indexByte s 10=i/\i<s.length/\iH0 s=(s.take i,s.drop (i+1),true)
 | []=>aH ⟨rfl,rfl⟩
 | c::s=>by
  unfold iH0 Lib.indexByte
  by_cases h:(c == 10)=true
  ·right;rw [aB h,aB h];exact ⟨0,rfl,by simp,rfl⟩
  ·rw [aA h,aA h];rcases tO0 s with ⟨h1,a⟩ | ⟨i,h1,a,b⟩
   ·left;rw [h1,a];exact ⟨rfl,rfl⟩
   ·right;refine ⟨i+1,?_,by simp;omega,?_⟩
    ·have d:¬((i:Int) == -1)=true:=fun e=>by have:=beq_iff_eq.1 e;omega
     rw [h1,aA d];rfl
    ·rw [b];rfl
def oG0 (t:List UInt8):List UInt8:=Lib.trimSuffix t [10]
theorem kD1 (a:List UInt8) {b:List UInt8} (h:b≠[]):gX [10] (a++b)=gX [10] b:=by
 unfold gX;rw [List.reverse_append];have c:b.reverse≠[]:=by simpa using h
 cases e:b.reverse with
 | nil=>exact absurd e c
 | cons x xs=>rfl
theorem vF1 (a:List UInt8) {b:List UInt8} (h:b≠[]):oG0 (a++b)=a++oG0 b:=by
 unfold oG0 Lib.trimSuffix Lib.hasSuffix;rw [kD1 a h];split
 ·have c:=List.length_pos_iff.2 h;have e:(a++b).length - 1=a.length+(b.length - 1):=by rw [aN];omega
  show (a++b).take ((a++b).length - 1)=a++b.take (b.length - 1);rw [e,List.take_length_add_append]
 ·rfl
theorem vG1 (a:List UInt8):oG0 (a++[10])=a:=by
 rw [vF1 a s7];have:oG0 [10]=[]:=d7;rw [this,List.append_nil]
theorem gX1 (t:List UInt8):(oG0 t).length<=t.length:=by
 unfold oG0 Lib.trimSuffix;split
 ·rw [List.length_take];omega
 ·exact lR7
def tP0 (t:List UInt8):List (List UInt8):=bH0 (oG0 t)
def baOf (l:List UInt8):ByteArray:=⟨l.toArray⟩
def mM0 (t:List UInt8):List UInt8:=if 20000<t.length then errT 4++[10] else iR0 ((tP0 t).map baOf) DsS.zero
end
section
open Go.RowKit Go.Shelf
def gV0 (w:World):Prop:=∃t f,w.heap[5]? = some (R (Lib.pow10Tab.map fun z=>Value.int .u64 z).toArray t f)
def ErrV (w:World) (g:Nat):Prop:=∃ev,w.cell? ⟨g,0,none⟩=some ev/\(ev=.nilIface\/∃te pe,ev=.iface te pe)
structure DsVars (w:World):Prop where
 et:ErrT w
 tab:gV0 w
 syn:ErrV w 3
 ran:ErrV w 4
section
variable {w w':World} {B:Nat}
theorem DsVars.below (h:DsVars w) (a:Below B w w') (j:12<=B):DsVars w':=by
 obtain ⟨h1,⟨t,f,d⟩,⟨b,e,k3⟩,⟨c,g,i⟩⟩:=h;refine ⟨?_,⟨t,f,(a.block _ o7).trans d⟩,⟨b,(a.cell (p:=⟨3,0,none⟩) (show 3<B by omega)).trans e,k3⟩,⟨c,(a.cell (p:=⟨4,0,none⟩) (show 4<B by omega)).trans g,i⟩⟩;unfold ErrT at h1 ⊢;exact (a.cell (p:=⟨6,0,none⟩) (show 6<B by omega)).trans h1
theorem gV0.is (h:gV0 w) {a:String} (b:prog.globalNamed a=some 5):Lib.TabIs prog w a .u64 Lib.pow10Tab:=by
 obtain ⟨t,f,h⟩:=h;unfold Lib.TabIs World.var?;rw [b];simp [h]
end
theorem pA1 (w:World) (k:Nat) (a:Array Obj):Below w.heap.size w (Go.Sort.grow (w.drewN k) a):=
 ⟨rfl,rfl,rfl,by show w.heap.size<=(w.heap++a).size;rw [Array.size_append];omega,fun j b=>by
  show (w.heap++a)[j]? = w.heap[j]?;rw [Array.getElem?_append_left b]⟩
theorem vH1 (w:World) (e:TypeId) (s:ByteArray):Below w.heap.size w (Lib.bytesWorld w e s):=
 ⟨rfl,rfl,rfl,by rw [Lib.bytesWorld_size];omega,fun j a=>Lib.bytesWorld_at_old w e s j a⟩
theorem pB1 (n:Int) (w:World) (h0:-9223372036854775808<=n) (h1:n<=9223372036854775807) (a:gV0 w):
  Calls prog 18 #[U G n] w fun e w'=>e=Y (.string (baOf (Lib.itoa n)))/\Below w.heap.size w w':=by
 refine (Any.strconv_Itoa cT1 n h0 h1 w (a.is k7)).mono ?_;rintro e w' ⟨rfl,k,b,rfl⟩;exact ⟨rfl,pA1 w k b⟩
theorem gY1 (n:Int) (w:World) (h0:-9223372036854775808<=n) (h1:n<=9223372036854775807) (a:gV0 w):
  Calls prog 49 #[U G n,U G 10] w fun e w'=>e=Y (.string (baOf (Lib.itoa n)))/\Below w.heap.size w w':=by
 refine (Any.strconv_FormatInt_10 cS1 n h0 h1 w (a.is k7)).mono ?_;rintro e w' ⟨rfl,k,b,rfl⟩;exact ⟨rfl,pA1 w k b⟩
def fA2 (s:ByteArray) (e:Ending):Prop:=
 (∃v,Lib.parseIntB 64 s.data.toList=.ok v/\e=Y (.tuple #[U G v,.nilIface]))\/
 ((∀v,Lib.parseIntB 64 s.data.toList≠.ok v)/\∃z t p,e=Y (.tuple #[U G z,.iface t p]))
theorem pC1 (s:ByteArray) (w:World) (g:s.size<=1000000) (d:ErrV w 3) (f:ErrV w 4):
  Calls prog 48 #[.string s,U G 10,U G 64] w fun e w'=>fA2 s e/\Below w.heap.size w w':=by
 cases hp:Lib.parseIntB 64 s.data.toList with
 | ok v=>
  refine (Any.strconv_ParseInt_10_at64_ok mU0 s o7 v hp w).mono ?_;rintro e w' ⟨rfl,rfl | ⟨t,rfl⟩⟩
  ·exact ⟨aH ⟨v,hp,rfl⟩,aF _ _⟩
  ·exact ⟨aH ⟨v,hp,rfl⟩,vH1 w _ _⟩
 | «syntax»=>
  obtain ⟨a,c,k⟩:=d;refine (Any.strconv_ParseInt_10_at64_syntax mU0 s o7 hp a w c k).mono ?_;rintro e w' ⟨N,rfl,_,_,b⟩;exact ⟨aG ⟨fun v e=>(by rw [hp] at e;cases e),_,_,_,rfl⟩,b⟩
 | range=>
  obtain ⟨a,c,k⟩:=f;refine (Any.strconv_ParseInt_10_at64_range mU0 s o7 hp a w c k).mono ?_;rintro e w' ⟨N,rfl,_,_,b⟩;exact ⟨aG ⟨fun v e=>(by rw [hp] at e;cases e),_,_,_,rfl⟩,b⟩
def qI0 (w:World) (bk o:Nat) (xs:List (List UInt8)):Prop:=∀(j:Nat) x,xs[j]? = some x->w.cell? ⟨bk,o+j,none⟩=some (.string (baOf x))
theorem bC1 (b o c:Nat) (xs:List (List UInt8)) (a:List UInt8) (w:World) (h:qI0 w b o xs) (g:0<xs.length) (q:xs.length<=100000) (m:xs.length<=c) (l:(Lib.join xs a).length<=100000000):
  Calls prog 63 #[J (some ⟨b,o,none⟩) xs.length c,.string (baOf a)] w fun e w'=>e=Y (.string (baOf (Lib.join xs a)))/\Below w.heap.size w w':=by
 have d:(xs.map baOf).length=xs.length:=by simp
 have i:(xs.map baOf).map (·.data.toList)=xs:=by
  rw [List.map_map];exact (List.map_congr_left (fun x _=>rfl)).trans (List.map_id xs)
 obtain ⟨x,n⟩:∃x,xs[0]? = some x:=⟨xs[0],List.getElem?_eq_getElem g⟩;have f:b<w.heap.size:=World.block_lt_of_cell? w ⟨b,o+0,none⟩ (h 0 x n)
 have:=Any.strings_Join uT0 iI0 b o c (xs.map baOf) (baOf a) w (fun j x k=>by
  rw [List.getElem?_map] at k;obtain ⟨y,p,rfl⟩:=Option.map_eq_some_iff.1 k;exact h j y p) f (by rw [d];omega) (by rw [d];exact m) (by rw [i];show (Lib.join xs a).length<=_;omega)
 rw [d,i] at this;exact this
theorem tQ0 (a:Option Addr) (c:Nat) (b:ByteArray) (w:World):
  Calls prog 63 #[J a 0 c,.string b] w fun e w'=>e=Y (.string (baOf []))/\Below w.heap.size w w':=by
 refine (Any.strings_Join_none uT0 iI0 a c b w).mono ?_;rintro e w' ⟨rfl,rfl⟩;exact ⟨rfl,aF _ _⟩
end
section
open Go.RowKit
theorem bD1:∀{rs:List (Int×Int)} {p:Int×Int} {i:Nat},(gR0 p i rs).1=0->gR0 p i rs=(0,-1)
 | [],_,_,_=>rfl
 | r::rs,p,i,h=>by
  unfold gR0 at h ⊢
  by_cases e:rowE p r=0
  ·rw [aB e] at h ⊢;exact bD1 h
  ·rw [aA e] at h;exact absurd h e
theorem vI1 (h:(tabE rs).1=0):tabE rs=(0,-1):=by
 cases rs with
 | nil=>exact absurd h d7
 | cons r rs=>
  rw [lY0] at h ⊢;split
  ·rename_i e;rw [aB e] at h;exact absurd h d7
  ·rename_i e;rw [aA e] at h;split
   ·rename_i e2;rw [aB e2] at h;exact bD1 h
   ·rename_i e2;rw [aA e2] at h;exact absurd h d7
theorem tR0 (h:(newE rs st dy p ti mo).1=0):tabE rs=(0,-1)/\nV0 st dy p=true/\(1<=ti/\ti<=1000000)/\(0<=mo/\mo<=10)/\(1<=p/\p<=1000000)/\(0<=st/\st<=10000)/\(0<=dy/\dy<=10000):=by
 unfold newE at h
 by_cases h0:(tabE rs).1≠0
 ·rw [aB h0] at h;exact absurd h h0
 ·rw [aA h0] at h;have h1:=Classical.byContradiction h0
  by_cases a:nV0 st dy p=true/\mP0 ti mo=true
  ·refine ⟨vI1 h1,a.1,?_⟩;obtain ⟨b,c⟩:=a;unfold nV0 cO0 inB at b;unfold mP0 at c;simp only [bE,decide_eq_true_eq] at b c;omega
  ·rw [aA a] at h;exact absurd h d7
def sumO:List Ord->Int
 | []=>0
 | o::T=>o.qty+sumO T
theorem pD1:∀{l:List Ord},(∀o∈l,1<=o.qty)->0<=sumO l
 | [],_=>Int.le_refl _
 | o::T,h=>by
  have:=pD1 (l:=T) (fun x a=>h x (List.mem_cons_of_mem _ a));have:=h o (aK ..);rw [sumO];omega
section
variable {p q:Int} {L:List Ord} {k:Nat}
end
theorem lI0 (b f:Nat) (now:Int) (rs:List (Int×Int)) (w:World) (h:cV0 w b 0 rs) (o:0<rs.length) (q:rs.length<=60):
  Calls prog 101 #[J (some ⟨b,0,none⟩) rs.length f,U G now] w
   fun e w'=>e=Y (.tuple #[U G (phaseV rs now).1,U G (phaseV rs now).2])/\Below w.heap.size w w':=by
 have p:=hid7 h;clear h;go_enter func101,ntmps101;go_wp2_with fail;go_loop [6] (fun i=>∃k:Nat,k<rs.length/\i=U G k/\bF0 (bZ0 rs k).2 now (rs.drop (k+1))=phaseV rs now) (fun i=>rs.length - (intOf i).toNat)
 case atStart=>exact ⟨0,o,rfl,rfl⟩
 case round=>
  obtain ⟨k,hk,rfl,d⟩:=hrel;have r:Hid (k+1<rs.length->(bZ0 rs (k+1)).1<=now->bF0 (bZ0 rs (k+1)).2 now (rs.drop (k+1+1))=phaseV rs now):=fun c n=>(vF0 c n).symm.trans d
  have s:Hid (k+1<rs.length->now<(bZ0 rs (k+1)).1->phaseV rs now=((bZ0 rs k).2,(bZ0 rs (k+1)).1)):=fun c n=>d.symm.trans (vG0 c n)
  have t:Hid (rs.length<=k+1->phaseV rs now=((bZ0 rs k).2,-1)):=fun c=>d.symm.trans (zT0 c)
  obtain ⟨g,j⟩:=p.out.row hk;simp only [bT] at g j;clear d
  by_cases c:rs.length<=k+1
  ·go_wp2_with fail;go_ret2;exact ⟨nQ0 (t.out c),aF _ _⟩
  ·have a:k+1<rs.length:=o7;obtain ⟨l,m⟩:=p.out.row a;simp only [bT] at l m;have u:(k:Int)<rs.length:=o7;have v:(k:Int)+1<rs.length:=o7;have x:(0:Int)<=(k:Int)+1:=o7;have y:((k:Int)+1).toNat=k+1:=o7;go_wp2_with fail
   ·go_round
    case rel=>exact ⟨k+1,a,by go_num,r.out a a7⟩
    case measure=>simp [intOf];omega
   ·go_quiet (fail);go_wp2;go_ret2;exact ⟨nQ0 (s.out a a7),below_drewN (aF _ _) _⟩
end
end Go.Proofs.YtaelphbianmckaaGreatDoor
