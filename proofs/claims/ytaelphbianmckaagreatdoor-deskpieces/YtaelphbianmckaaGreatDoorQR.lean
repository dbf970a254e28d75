/- DeskPieces: a part of the proof, packed (the readable form: the templates). -/
import Derived.Test.YtaelphbianmckaaGreatDoorQA
import Derived.Test.YtaelphbianmckaaGreatDoorQK
import Derived.Test.YtaelphbianmckaaGreatDoorQQ
import Derived.Test.YtaelphbianmckaaGreatDoorQL
import Derived.WalkLawsBesides
import Derived.Test.YtaelphbianmckaaGreatDoorQD
namespace Go.Proofs.YtaelphbianmckaaGreatDoor
open Go.RowKit
def KdL (L:List Ord):Prop:=∀o∈L,in64 o.kind
structure KdM (M:Mkt):Prop where
 l:KdL M.L
 p:∀o∈M.P,in64 o.kind∧in64 o.price
theorem bC0 {z:Int} (h:-1000000000≤z∧z≤1000000000):in64 z:=⟨by omega,by omega⟩
theorem KdL.less {L:List Ord} (h:KdL L) (id n:Int):KdL (bE0 id n L):=fun x hx=>by
 obtain ⟨y,hy,_,_,e,_⟩:=oQ0 hx;rw [←e];exact h y hy
theorem KdL.add {L:List Ord} (h:KdL L) {o:Ord} (ho:in64 o.kind):KdL (addL o L):=fun x hx=>by
 rcases sA0 hx with h1 | h1
 ·exact h x h1
 ·rw [h1,uS0];exact ho
theorem sE0 {k:Nat} {L:List Ord} {x:Ord} (h:x∈jN0 k L):x∈L:=by
 unfold jN0 at h;rcases List.mem_append.1 h with h | h
 ·exact List.mem_of_mem_take h
 ·exact List.mem_of_mem_drop h
theorem lI1 {L:List Ord} (h:KdL L) (k:Nat):in64 (oAt L k).kind:=by
 by_cases hk:k<L.length
 ·exact h _ (tD0 hk)
 ·have:oAt L k=Ord.none_:=by simp [oAt,hk]
  rw [this];exact bC0 (by decide)
theorem KdL.cut {L:List Ord} (h:KdL L) (id q:Int):KdL (cutM id q L):=fun x hx=>by
 unfold cutM at hx;split at hx
 ·exact h x hx
 ·split at hx
  ·exact h x hx
  ·split at hx
   ·exact h x (sE0 hx)
   ·rcases List.mem_or_eq_of_mem_set hx with h1 | h1
    ·exact h x h1
    ·rw [h1];exact lI1 h _
theorem KdL.fills {p:Int}:∀(n:Nat) (s:FS),KdL s.L→KdL (gI0 p n s).L
 | 0,_,h=>h
 | n+1,s,h=>by
  unfold gI0;split
  ·exact h
  ·exact KdL.fills n _ ((h.cut _ _).cut _ _)
theorem KdL.lim {L:List Ord} (h:KdL L):KdL (limL L):=fun x hx=>h x (List.mem_filter.1 hx).1
theorem KdM.unc {M:Mkt} (h:KdM M):KdM (uncM M).2:=by
 unfold uncM;split
 ·exact ⟨(KdL.fills _ _ h.l).lim,h.p⟩
 ·exact ⟨h.l.lim,h.p⟩
theorem gM1:∀(P L:List Ord),(∀o∈P,in64 o.kind∧in64 o.price)→KdL L→KdL (P.foldl (fun L o=>addL o L) L)
 | [],_,_,h=>h
 | o::P,L,hP,h=>gM1 P (addL o L) (fun x hx=>hP x (List.mem_cons_of_mem _ hx)) (h.add (hP o (List.mem_cons_self ..)).1)
theorem KdM.clos {M:Mkt} (h:KdM M):KdM (jE0 M):=⟨gM1 M.P M.L h.p h.l,fun o ho=>by cases ho⟩
theorem KdM.nil {M:Mkt} (hL:M.L=[]) (hP:M.P=[]):KdM M:=⟨fun o ho=>(by rw [hL] at ho;cases ho),fun o ho=>(by rw [hP] at ho;cases ho)⟩
theorem KdM.same {M M':Mkt} (h:KdM M) (hL:M'.L=M.L) (hP:M'.P=M.P):KdM M':=⟨by rw [hL];exact h.l,by rw [hP];exact h.p⟩
theorem KdM.tick {M:Mkt} (h:KdM M):KdM (bO0 M).2:=by
 unfold bO0;split
 ·exact h
 ·unfold wE0;have h1:KdM { M with now:=M.now+1 }:=h.same rfl rfl;split
  ·exact KdM.nil rfl rfl
  ·split
   ·exact h1
   ·split
    ·exact h1.unc.same rfl rfl
    ·split
     ·exact h1.clos
     ·split
      ·exact h1.same rfl rfl
      ·split
       ·split
        ·exact h1.unc.same rfl rfl
        ·split
         ·exact h1.same rfl rfl
         ·exact h1.same rfl rfl
       ·exact h1
theorem KdL.meet {al:List Int→Int→Bool} {o:Ord}:∀(X:List Ord) (s:MS),KdL s.L→KdL (cH0 al o X s).1.L
 | [],s,h=>by unfold cH0;exact h
 | x::T,s,h=>by
  by_cases h0:s.q≤0
  ·rw [eJ0 h0];exact h
  by_cases hk:x.kind=2
  ·rw [lH0 hk];exact KdL.meet T s h
  cases hf:farB o x with
  | true=>rw [kH0 (by omega) hk hf];exact h
  | false=>
   cases ha:al s.ts x.price with
   | false=>rw [iW0 (by omega) hk hf ha];exact h
   | true=>
    rw [hL0 (by omega) hk hf ha];refine KdL.meet T (hZ0 o x s) ?_;unfold hZ0;exact h.less _ _
theorem KdM.trade {M:Mkt} (h:KdM M) {o:Ord} (ho:in64 o.kind):KdM (dY0 M o).2:=by
 have hm:KdL (bM0 M o).1.L:=KdL.meet _ _ h.l
 have hl:KdL (if 0<(bM0 M o).1.q∧o.kind≠2 then addL (cE0 o (bM0 M o).1.q) (bM0 M o).1.L else (bM0 M o).1.L):=by
  split
  ·exact hm.add ho
  ·exact hm
 unfold dY0;dsimp only;split
 ·exact ⟨hl,h.p⟩
 ·exact ⟨hl,h.p⟩
theorem KdM.ord {M:Mkt} (h:KdM M) {o:Ord} (ho:in64 o.kind) (hp:in64 o.price):KdM (ordM M o).2:=by
 unfold ordM;split
 ·have h1:KdM { M with I:=M.I++[o.id] }:=h.same rfl rfl;have ho':in64 (lieO o).kind:=by rw [uS0];exact ho
  have hp':in64 (lieO o).price:=by
   unfold lieO;split
   ·exact (bC0 ⟨by decide,by decide⟩:in64 1)
   ·exact hp
  unfold gU0;split
  ·refine ⟨h1.l,fun x hx=>?_⟩;rcases List.mem_append.1 hx with hx | hx
   ·exact h.p x hx
   ·rw [List.mem_singleton.1 hx];exact ⟨ho',hp'⟩
  ·split
   ·exact ⟨h1.l.add ho',h.p⟩
   ·exact h1.trade ho'
 ·exact h
theorem KdM.can {M:Mkt} (h:KdM M) (id:Int):KdM (canM M id):=by
 unfold canM;split
 ·exact h
 ·split
  ·exact ⟨h.l,fun o ho=>h.p o (sE0 ho)⟩
  ·refine ⟨fun o ho=>?_,h.p⟩;have ho':o∈canL id M.L:=ho;unfold canL at ho';split at ho'
   ·exact h.l o ho'
   ·exact h.l o (sE0 ho')
theorem KdM.halt {M:Mkt} (h:KdM M):KdM (hT0 M):=by
 unfold hT0;split
 ·exact h
 ·exact h.same rfl rfl
theorem KdM.open_ {M:Mkt} (h:KdM M):KdM (eK0 M):=by
 unfold eK0;split
 ·split
  ·exact h.same rfl rfl
  ·split
   ·exact h.clos
   ·exact h.same rfl rfl
 ·exact h
theorem pC0 {p:Int}:∀(n:Nat) (s:FS),(∀f∈s.fs,f.price=p)→∀f∈(gI0 p n s).fs,f.price=p
 | 0,_,h=>h
 | n+1,s,h=>by
  unfold gI0;split
  ·exact h
  ·refine pC0 n _ (fun f hf=>?_);rcases List.mem_append.1 hf with hf | hf
   ·exact h f hf
   ·rw [List.mem_singleton.1 hf]
theorem gN1 {M:Mkt} (hL:LOk M.L) (hla:1≤M.la∧M.la≤1000000):∀f∈(uncM M).1,1≤f.price∧f.price≤1000000:=by
 unfold uncM;split
 ·rename_i hq;intro f hf;rw [pC0 _ _ (fun f hf=>by cases hf) f hf];exact fF0 hL hla hq
 ·intro f hf;cases hf
theorem bM1 {M:Mkt} (hL:LOk M.L) (hla:1≤M.la∧M.la≤1000000):∀f∈(bO0 M).1,1≤f.price∧f.price≤1000000:=by
 have hu:=gN1 (M:={ M with now:=M.now+1 }) hL hla;have hn:∀f∈([]:List Fil),1≤f.price∧f.price≤1000000:=fun f hf=>by cases hf
 unfold bO0;split
 ·exact hn
 ·unfold wE0;split
  ·dsimp only;split
   ·exact hu
   ·exact hn
  ·split
   ·exact hn
   ·split
    ·exact hu
    ·split
     ·exact hn
     ·split
      ·exact hn
      ·split
       ·split
        ·exact hu
        ·split
         ·exact hn
         ·exact hn
       ·exact hn
theorem uW0 {st dy an la p:Int} (ha:1≤an∧an≤1000000) (hs:0≤st∧st≤10000) (h:dX0 st dy an la p=true):1≤p∧p≤1000000:=by
 have hok:bW0 an st=true:=by unfold bW0 inB;simp;omega
 have h1:eV0 st an p=true:=by
  unfold dX0 at h;exact (Bool.and_eq_true_iff.1 h).1
 unfold eV0 inB bandL bandH at h1;rw [if_pos hok,if_pos hok] at h1;obtain ⟨h2,h3⟩:=Bool.and_eq_true_iff.1 h1;have h2':=of_decide_eq_true h2;have h3':=of_decide_eq_true h3;omega
theorem pD0 {st dy an:Int} (ha:1≤an∧an≤1000000) (hs:0≤st∧st≤10000):∀{fs:List Fil} {la:Int},jS0 st dy an la fs→∀f∈fs,1≤f.price∧f.price≤1000000
 | [],_,_,f,hf=>by cases hf
 | g::fs,la,h,f,hf=>by
  obtain ⟨h1,h2⟩:=h;rcases List.mem_cons.1 hf with rfl | hf
  ·exact uW0 ha hs h1
  ·exact pD0 ha hs h2 f hf
def LotI (lots:Int→Int):Prop:=∀id,lots id≠0→in64 id
theorem LotI.start:LotI (fun _=>0):=fun _ h=>absurd rfl h
theorem LotI.up {lots:Int→Int} (h:LotI lots) {k v:Int} (hk:in64 k):LotI (upF lots k v):=fun id hid=>by
 by_cases e:id=k
 ·rw [e];exact hk
 ·rw [cC0 e] at hid;exact h id hid
theorem LotI.fills {side:Int→Int}:∀{fs:List Fil} {lots:Int→Int},LotI lots→(∀id,lots id≤1000000)→dN0 side lots fs→(∀f∈fs,in64 f.buyer∧in64 f.seller∧in64 f.qty)∧LotI (bF0 lots fs)
 | [],_,h,_,_=>⟨fun f hf=>(by cases hf),h⟩
 | f::fs,lots,h,hb,hf=>by
  obtain ⟨⟨h1,h2,h3,h4,h5⟩,hr⟩:=hf;have i1:in64 f.buyer:=h _ (by omega);have i2:in64 f.seller:=h _ (by omega);have hne:f.seller≠f.buyer:=fun e=>by rw [e,h2] at h3;omega
  have hb':∀id,kV0 lots f id≤1000000:=fun id=>by
   unfold kV0
   by_cases e:id=f.seller
   ·rw [e,dC0,cC0 hne];have:=hb f.seller;omega
   ·rw [cC0 e]
    by_cases e2:id=f.buyer
    ·rw [e2,dC0];have:=hb f.buyer;omega
    ·rw [cC0 e2];exact hb id
  obtain ⟨r1,r2⟩:=LotI.fills ((h.up i1).up i2) hb' hr;refine ⟨fun g hg=>?_,r2⟩;rcases List.mem_cons.1 hg with rfl | hg
  ·exact ⟨i1,i2,bC0 (by have:=hb g.buyer;omega)⟩
  ·exact r1 g hg
structure NumI (M:Mkt) (lots:Int→Int):Prop where
 kd:KdM M
 lot:LotI lots
theorem zB0 {M:Mkt} {lots side:Int→Int} {since:Int} {hands:Bool} (h:DayInv M lots side since hands) (hL:LOk M.L) (hN:NumI M lots):∀o∈M.L,jG0 o:=fun o ho=>by
 have h1:=hL.ok o ho;have h2:=(h.kp o (List.mem_append_left _ ho)).1;exact ⟨hN.lot _ (by omega),hN.kd.l o ho,bC0 (by omega),bC0 (by omega)⟩
theorem zC0 {M:Mkt} {lots side:Int→Int} {since:Int} {hands:Bool} (h:DayInv M lots side since hands) (hN:NumI M lots):∀o∈M.P,jG0 o:=fun o ho=>by
 have h2:=(h.kp o (List.mem_append_right _ ho)).1;have h3:=h.lb o.id;have h4:=(h.pP o ho).2;exact ⟨bounds_i64 h4,(hN.kd.p o ho).1,(hN.kd.p o ho).2,bC0 (by omega)⟩
structure DsK where
 ta:Option Addr
 tc:Nat
 eb:Nat
 k:EgK
def dsV (x:DsK) (H:DsS):Array Value:=#[.slice x.ta H.rs.length x.tc,.int .i64 H.st,.int .i64 H.dy,.int .i64 H.pr,.int .i64 H.ti,.int .i64 H.mo,.pointer (match H.mkt with | some _=>some ⟨x.eb,0,none⟩ | none=>none)]
structure DsIs (w:World) (lo sb:Nat) (x:DsK) (H:DsS) (n:Nat):Prop where
 box:w.heap[sb]? = some (.cells (dsV x H) 32 (0,0))
 slt:sb<lo∧lo≤w.heap.size
 rows:0<H.rs.length→∃tb,x.ta=some ⟨tb,0,none⟩∧cI0 w tb 0 H.rs∧mD0 H.rs∧lo≤tb∧((∃M,H.mkt=some M)→¬x.k.foot x.eb tb)∧∃cs f,w.heap[tb]? = some (.cells cs 113 f)
 eg:∀M,H.mkt=some M→Eg w x.eb x.k M∧(∃lots side,DayInv M lots side 0 true∧NumI M lots)∧(∀j,x.k.foot x.eb j→lo≤j)∧x.k.m≤302*n∧M.now≤(n:Int)
def DsW (w:World) (lo sb:Nat) (j:Nat):Prop:=j=sb∨(lo≤j∧∀c t f,t=5∨t=9→w.heap[j]?≠some (.cells c t f))
section
variable {w w':World} {lo sb n:Nat} {x:DsK} {H:DsS} {M:Mkt}
theorem Eg.farU {eb:Nat} {k:EgK} (h:Eg w eb k M) {j:Nat} (hj:k.foot eb j):∀c t f,t=5∨t=9→w.heap[j]?≠some (.cells c t f):=fun c tt f htt e=>by
 have row:∀{base et size n:Nat} {v:Value} {xs:List Value},w.ownsRow base et size v n xs→v.ownBlock=some j→(et≠5∧et≠9)→False:=fun {base et size n v xs} hr hv hne=>by
  rcases hr.2 with ⟨e1,_⟩ | ⟨g,cap,cur,e1,_,hh,_⟩
  ·rw [e1] at hv;cases hv
  ·rw [e1] at hv;have e2:g=j:=by simpa [Value.ownBlock] using hv
   rw [←e2,hh] at e;injection e with e;injection e with _ e3 _;exact htt.elim (fun q=>hne.1 (e3.trans q)) (fun q=>hne.2 (e3.trans q))
 have box:∀{b:Nat} {vs:Array Value} {t:TypeId} {f':Nat×Nat},w.heap[b]? = some (.cells vs t f')→j=b→(t≠5∧t≠9)→False:=fun {b vs t f'} hb hv hne=>by
  rw [←hv,e] at hb;injection hb with hb;injection hb with _ e3 _;exact htt.elim (fun q=>hne.1 (e3.symm.trans q)) (fun q=>hne.2 (e3.symm.trans q))
 rcases hj with hj | hj | hj | hj | hj
 ·exact box h.box hj (by decide)
 ·exact box h.bn hj (by decide)
 ·rcases hj with hj | hj | hj | hj | hj
  ·exact box h.bk.at_.box hj (by decide)
  ·rcases hj with hj | hj | hj
   ·exact box h.bk.at_.ar.box hj (by decide)
   ·exact row h.bk.at_.ar.slots hj (by decide)
   ·exact row h.bk.at_.ar.free hj (by decide)
  ·exact h.bk.at_.map.ne e hj
  ·exact row h.bk.at_.row0 hj (by decide)
  ·exact row h.bk.at_.row1 hj (by decide)
 ·exact row h.pk hj (by decide)
 ·exact h.tkn.ne e hj
theorem DsIs.below (h:DsIs w lo sb x H n) (hb:Below w.heap.size w w'):DsIs w' lo sb x H n:=by
 refine ⟨aD0 h.box hb lR7,⟨h.slt.1,Nat.le_trans h.slt.2 hb.size⟩,fun h0=>?_,fun M hM=>?_⟩
 ·obtain ⟨tb,h1,h2,h3,h4,h5,cs,f,h6⟩:=h.rows h0;exact ⟨tb,h1,h2.below hb lR7,h3,h4,h5,cs,f,aD0 h6 hb lR7⟩
 ·obtain ⟨h1,h2⟩:=h.eg M hM;exact ⟨h1.below hb,h2⟩
theorem DsIs.more {n':Nat} (h:DsIs w lo sb x H n) (hn:n≤n'):DsIs w lo sb x H n':=⟨h.box,h.slt,h.rows,fun M hM=>by
 obtain ⟨h1,h2,h3,h4,h5⟩:=h.eg M hM;exact ⟨h1,h2,h3,by omega,by omega⟩⟩
theorem DsIs.ptr (h:DsIs w lo sb x H n):w.cell? ⟨sb,6,none⟩=some (.pointer (match H.mkt with | some _=>some ⟨x.eb,0,none⟩ | none=>none)):=aA0 (j:=6) h.box rfl
theorem DsIs.far (h:DsIs w lo sb x H n) (hM:H.mkt=some M):¬x.k.foot x.eb sb:=fun e=>by
 have:=(h.eg M hM).2.2.1 sb e;have:=h.slt.1;omega
theorem DsW.of_below (hb:Below w.heap.size w w'):Out (DsW w lo sb) w w':=Out.of_below hb lR7
theorem DsIs.go {k':EgK} {M':Mkt} (h:DsIs w lo sb x H n) (hM:H.mkt=some M) (hg:EgGo w w' x.eb x.k k' M') (hI:∃lots side,DayInv M' lots side 0 true∧NumI M' lots) (hm:k'.m≤302*(n+1)) (hn:M'.now≤(n+1:Nat)):
  DsIs w' lo sb { x with k:=k' } { H with mkt:=some M' } (n+1)∧Out (DsW w lo sb) w w':=by
 obtain ⟨h1,h2,h3,h4,h5⟩:=h.eg M hM;have hf:=h.far hM;refine ⟨⟨?_,⟨h.slt.1,Nat.le_trans h.slt.2 hg.2.1.size⟩,fun h0=>?_,fun M2 e=>?_⟩,hg.2.1.mono fun j hj=>Or.inr ⟨h3 j hj,h1.farU hj⟩⟩
 ·have:=aE0 h.box hg.2.1 hf;unfold dsV at this ⊢;rw [hM] at this;exact this
 ·obtain ⟨tb,e1,e2,e3,e4,e5,cs,f,e6⟩:=h.rows h0;have ht:¬x.k.foot x.eb tb:=e5 ⟨M,hM⟩;refine ⟨tb,e1,bR0 e2 hg.2.1 ht,e3,e4,fun _ e=>?_,cs,f,aE0 e6 hg.2.1 ht⟩;rcases hg.2.2.1 tb e with e | e
  ·exact ht e
  ·have:=lt_of_block e6;omega
 ·cases e;refine ⟨hg.1,hI,fun j hj=>?_,hm,hn⟩;rcases hg.2.2.1 j hj with e | e
  ·exact h3 j e
  ·exact Nat.le_trans h.slt.2 e
end
def dD0 (r:Int×List UInt8) (e:Ending):Prop:=
 (r.1=0∧e=.returned (.string (baOf r.2)))∨(r.1≠0∧e=.panicked [{ v:=.iface 26 (.int .i64 r.1),recovered:=false }])
def cY0 (w w':World) (lo sb n:Nat) (r:(Int×List UInt8)×DsS) (e:Ending):Prop:=dD0 r.1 e∧Out (DsW w lo sb) w w'∧∃x',DsIs w' lo sb x' r.2 (n+1)
end Go.Proofs.YtaelphbianmckaaGreatDoor
namespace Go.Proofs.YtaelphbianmckaaGreatDoor
open Go.RowKit Go.Shelf
set_option maxHeartbeats 400000 in
theorem sD1 (a b:Int) (f:Value) (n:Nat) (w:World) (hn:n≤1000000):
  Calls Tryz.prog 44 #[.agg #[.int .i64 a,.int .i64 b,f],.int .i64 n] w fun e w'=>e=.returned (.bool (kP0 a n))∧Below w.heap.size w w':=by
 have hb:=bel1 w (.cells #[.int .i64 a,.int .i64 b,f] 69);have HB:Hid _:=hb;clear hb
 have e0:(Int.tmod (n:Int) 2 == 0)=decide ((n:Int) % 2=0):=by
  rw [Int.tmod_eq_emod_of_nonneg (by omega)];rfl
 by_cases h:a=-1
 ·have h1:(a == -1)=true:=beq_iff_eq.2 h;have HF:Hid (kP0 a n=decide ((n:Int) % 2=0)):=by show _=_;unfold kP0;rw [if_pos h]
  clear h;go_enter Tryz.func44,Tryz.ntmps44;go_wp2_with fail;go_ret;exact ⟨by rw [HF.out];first | rfl | (rw [←e0]),HB.out⟩
 ·have h1:(a == -1)=false:=beq_eq_false_iff_ne.2 h;have HF:Hid (kP0 a n=((n:Int) == a)):=by show _=_;unfold kP0;rw [if_neg h];rfl
  clear h;go_enter Tryz.func44,Tryz.ntmps44;go_wp2_with fail;go_ret;exact ⟨by rw [HF.out];rfl,HB.out⟩
set_option maxHeartbeats 400000 in
theorem sE1 (lo sb n:Nat) (x:DsK) (H:DsS) (t:Int) (w:World) (h:DsIs w lo sb x H n):
  Calls Tryz.prog 46 #[.pointer (some ⟨sb,0,none⟩),.int .i64 t] w fun e w'=>e=.returned (.bool (mayD t H))∧w'=w:=by
 have c6:=h.ptr;clear h
 by_cases h1:t=1
 ·have e1:(t == 1)=true:=beq_iff_eq.2 h1;have HF:Hid (mayD t H=H.mkt.isNone):=by show _=_;unfold mayD;rw [if_pos h1]
  clear h1;cases hm:H.mkt with
  | none=>
   rw [hm] at c6 HF;go_enter Tryz.func46,Tryz.ntmps46;go_wp2_with fail;go_ret;exact ⟨by rw [HF.out];rfl,rfl⟩
  | some M=>
   rw [hm] at c6 HF;go_enter Tryz.func46,Tryz.ntmps46;go_wp2_with fail;go_ret;exact ⟨by rw [HF.out];rfl,rfl⟩
 ·have e1:(t == 1)=false:=beq_eq_false_iff_ne.2 h1
  by_cases h2:t=2
  ·have e2:(t == 2)=true:=beq_iff_eq.2 h2;have HF:Hid (mayD t H=H.mkt.isSome):=by show _=_;unfold mayD;rw [if_neg h1,if_pos h2]
   clear h1 h2;cases hm:H.mkt with
   | none=>
    rw [hm] at c6 HF;go_enter Tryz.func46,Tryz.ntmps46;go_wp2_with fail;go_ret;exact ⟨by rw [HF.out];rfl,rfl⟩
   | some M=>
    rw [hm] at c6 HF;go_enter Tryz.func46,Tryz.ntmps46;go_wp2_with fail;go_ret;exact ⟨by rw [HF.out];rfl,rfl⟩
  ·have e2:(t == 2)=false:=beq_eq_false_iff_ne.2 h2;have HF:Hid (mayD t H=true):=by show _=_;unfold mayD;rw [if_neg h1,if_neg h2]
   clear h1 h2 c6;go_enter Tryz.func46,Tryz.ntmps46;go_wp2_with fail;go_ret;exact ⟨by rw [HF.out];rfl,rfl⟩
theorem qS0:∀(ws:List ByteArray) (s:ByteArray),eY0 (ws++[s])=match eY0 ws with | none=>none | some l=>match numB s with | none=>none | some n=>some (l++[n])
 | [],s=>by
  show (match numB s with | none=>none | some n=>_)=_;cases numB s <;> rfl
 | a::ws,s=>by
  show (match numB a with | none=>none | some n=>match eY0 (ws++[s]) with | none=>none | some l=>some (n::l))=(match (match numB a with | none=>none | some n=>match eY0 ws with | none=>none | some l=>some (n::l)) with | none=>none | some l=>match numB s with | none=>none | some n=>some (l++[n]));rw [qS0 ws s];cases numB a with
  | none=>rfl
  | some n=>
   cases eY0 ws with
   | none=>rfl
   | some l=>cases numB s <;> rfl
theorem lV0:∀(ws:List ByteArray) {s:ByteArray},s∈ws→numB s=none→eY0 ws=none
 | [],_,h,_=>by cases h
 | a::ws,s,h,hs=>by
  show (match numB a with | none=>none | some n=>match eY0 ws with | none=>none | some l=>some (n::l))=none;rcases List.mem_cons.1 h with rfl | h
  ·rw [hs]
  ·rw [lV0 ws h hs];cases numB a <;> rfl
theorem hE0:∀(ws:List ByteArray) {l:List Int},eY0 ws=some l→l.length=ws.length
 | [],l,h=>by cases h;rfl
 | a::ws,l,h=>by
  change (match numB a with | none=>none | some n=>match eY0 ws with | none=>none | some l=>some (n::l))=some l at h
  cases ha:numB a with
  | none=>rw [ha] at h;cases h
  | some n=>
   rw [ha] at h;cases hw:eY0 ws with
   | none=>rw [hw] at h;cases h
   | some l'=>
    rw [hw] at h;cases h;simp [hE0 ws hw]
theorem zD0 {l:List UInt8} {v:Int} (h:Lib.parseIntB 64 l=.ok v):-9223372036854775808≤v∧v≤9223372036854775807:=by
 unfold Lib.parseIntB at h;split at h
 ·cases h
 ·dsimp only at h;split at h
  ·cases h
  ·cases h
  ·split at h
   ·cases h
   ·split at h
    ·cases h
    ·rename_i u _ h1 h2;cases h;split
     ·rename_i hneg;have:¬2 ^ (64 - 1)<u:=fun e=>h2 ⟨hneg,e⟩
      have e63:2 ^ (64 - 1)=9223372036854775808:=by decide
      omega
     ·rename_i hneg;have:¬2 ^ (64 - 1)≤u:=fun e=>h1 ⟨hneg,e⟩
      have e63:2 ^ (64 - 1)=9223372036854775808:=by decide
      omega
theorem pL1 {s:ByteArray} {v:Int} (h:numB s=some v):-9223372036854775808≤v∧v≤9223372036854775807:=by
 unfold numB at h;split at h
 ·rename_i v' hp;split at h
  ·cases h;exact zD0 hp
  ·cases h
 ·cases h
theorem mZ0:∀(ws:List ByteArray) {l:List Int},eY0 ws=some l→∀z∈l,-9223372036854775808≤z∧z≤9223372036854775807
 | [],l,h,z,hz=>by cases h;cases hz
 | a::ws,l,h,z,hz=>by
  change (match numB a with | none=>none | some n=>match eY0 ws with | none=>none | some l=>some (n::l))=some l at h
  cases ha:numB a with
  | none=>rw [ha] at h;cases h
  | some n=>
   rw [ha] at h;cases hw:eY0 ws with
   | none=>rw [hw] at h;cases h
   | some l'=>
    rw [hw] at h;cases h;rcases List.mem_cons.1 hz with rfl | hz
    ·exact pL1 ha
    ·exact mZ0 ws hw z hz
def numV (l:List Int) (n:Nat):List Value:=l.map (fun z=>Value.int .i64 z)++List.replicate (n - l.length) (.int .i64 0)
theorem pM1 {l:List Int} {n:Nat} (h:l.length<n) (z:Int):(numV l n).set l.length (.int .i64 z)=numV (l++[z]) n:=by
 unfold numV;rw [show n - l.length=(n - (l++[z]).length)+1 by simp;omega,List.replicate_succ,List.set_append,if_neg (by simp)];simp
theorem sF1 {l:List Int} {n:Nat} (h:l.length<n):(numV l n)[l.length]? = some (.int .i64 0):=by
 unfold numV;rw [List.getElem?_append_right (by simp)];simp [List.getElem?_replicate];omega
def xB0 (l:List Int):List Value:=l.map (fun z=>Value.int .i64 z)
theorem pN1 {l:List Int}:numV l l.length=xB0 l:=by simp [numV,xB0]
def gO1 (ws:List ByteArray) (w w':World) (e:Ending):Prop:=
 (eY0 ws=none∧e=.panicked [{ v:=.iface 26 (.int .i64 3),recovered:=false }])∨
 ∃l v,eY0 ws=some l∧e=.returned v∧w'.ownsRow w.heap.size 3 1 v l.length (xB0 l)
theorem Tryz.infoIntD:(Tryz.prog.info? 3).map (fun i=>(i.zero,i.size,i.bytes))=some (some (.int .i64 0),1,8):=by kernel_rfl
set_option maxRecDepth 8000 in
set_option maxHeartbeats 4000000 in
theorem gP1 (a:Option Addr) (cap:Nat) (ws:List ByteArray) (w:World) (hc:∀j s,ws[j]? = some s→∃b o,a=some ⟨b,o,none⟩∧w.cell? ⟨b,o+j,none⟩=some (.string s)) (hs:∀s∈ws,s.size≤1000000) (hn:ws.length≤100000) (hv:DsVars w) (hB:12≤w.heap.size):
  Calls Tryz.prog 45 #[.slice a ws.length cap] w fun e w'=>gO1 ws w w' e∧Below w.heap.size w w':=by
 obtain ⟨i0,hi,hz0,hz1,hz2⟩:=info_parts Tryz.infoIntD;have HC:Hid (∀j s,ws[j]? = some s→∃b o,a=some ⟨b,o,none⟩∧w.cell? ⟨b,o+j,none⟩=some (.string s)):=hc;have HS:Hid (∀s∈ws,s.size≤1000000):=hs;have HV:Hid (DsVars w):=hv;have q1:∀(w:World) (t:TypeId) (p:Value),(binOp .neq 43 (.iface t p) .nilIface).run Tryz.prog w=.ok (.bool true) w:=fun _ _ _=>by rfl
 have q0:∀(w:World),(binOp .neq 43 .nilIface .nilIface).run Tryz.prog w=.ok (.bool false) w:=fun _=>by rfl
 clear hc hs hv;go_enter Tryz.func45,Tryz.ntmps45;go_wp2_with (at_make;refine wpList_make_full _ rfl _ _ 59 rfl w.heap.size 3 i0 (.int .i64 0) 1 Tryz.underlying59 hi hz0 hz1 _ _ _ _ ws.length rfl rfl (by go_num) (by go_num) (by rw [hz2];omega) (by unfold maxLen;omega) lR7 ?_;intro wt hownt hgt);have hbt:Below w.heap.size w wt:=(Below.refl _ _).grown hgt lR7 (fun _ hq=>by cases hq);rw [show (Value.int .i64 0:Value).cells=#[.int .i64 0] from rfl,Nat.mul_one,toList_madeCells_one,show List.replicate ws.length (Value.int .i64 0)=numV [] ws.length by simp [numV]] at hownt;have HO:Hid _:=hownt;have HB0:Hid (Below w.heap.size w wt):=hbt;clear hownt hbt hgt hi hz0 hz1 hz2;go_wp2_with fail
 go_loopw [4,5,6,7,13] (fun _ _ _ _ u wr=>∃(k:Nat) (l:List Int),k≤ws.length∧u=.int .i64 k∧eY0 (ws.take k)=some l∧wr.ownsRow w.heap.size 3 1 (.slice (some ⟨w.heap.size,0,none⟩) ws.length ws.length) ws.length (numV l ws.length)∧Below w.heap.size w wr)
  (fun _ _ _ _ u _=>ws.length - (intOf u).toNat)
 case atStart=>exact ⟨0,[],Nat.zero_le _,rfl,rfl,HO.out,HB0.out⟩
 case round=>
  obtain ⟨k,l,hk,rfl,hl,hrow,hb⟩:=hrel;have HB1:Hid (Below w.heap.size w wr):=hb;have HR1:Hid _:=hrow;have HL:Hid (eY0 (ws.take k)=some l):=hl;clear hrow hb hl
  by_cases hlt:k<ws.length
  ·obtain ⟨s,hsk⟩:∃s,ws[k]? = some s:=⟨ws[k],List.getElem?_eq_getElem hlt⟩;have HSK:Hid (ws[k]? = some s):=hsk;obtain ⟨b,o,rfl,c0⟩:=HC.out k s hsk;have c1:wr.cell? ⟨b,o+k,none⟩=some (.string s):=(HB1.out.cell (p:=⟨b,o+k,none⟩) (World.block_lt_of_cell? w _ c0)).trans c0;have hss:=HS.out s (List.mem_of_getElem? hsk);clear hsk c0;have HVR:Hid (DsVars wr):=HV.out.below HB1.out hB;go_wp2_with fail;refine (oU1 s wr hss HVR.out.syn HVR.out.ran).mono ?_;rintro e w2 ⟨hP,hb2⟩;have HBR2:Hid (Below wr.heap.size wr w2):=hb2;have HB2:Hid (Below w.heap.size w w2):=aC0 HB1.out hb2;have HR2:Hid (w2.ownsRow w.heap.size 3 1 (.slice (some ⟨w.heap.size,0,none⟩) ws.length ws.length) ws.length (numV l ws.length)):=aS0 HR1.out hb2 lR7;clear hb2 c1;rcases hP with ⟨v,hp,rfl⟩ | ⟨hno,z,t,p,rfl⟩
   ·have hvin:=zD0 hp;have HP:Hid (Lib.parseIntB 64 s.data.toList=.ok v):=hp;clear hp;go_wp2_with fail;refine (kF1 v w2 hvin.1 hvin.2 (HVR.out.tab.below HBR2.out)).mono ?_;rintro e w3 ⟨rfl,hb3⟩;have HB3:Hid (Below w.heap.size w w3):=aC0 HB2.out hb3;have HR3:Hid (w3.ownsRow w.heap.size 3 1 (.slice (some ⟨w.heap.size,0,none⟩) ws.length ws.length) ws.length (numV l ws.length)):=aS0 HR2.out hb3 lR7;clear hb3;have hll:=hE0 _ HL.out;rw [List.length_take,Nat.min_eq_left hk] at hll
    by_cases hq:Lib.itoa v=s.data.toList
    ·have hq1:((baOf (Lib.itoa v)).toList == s.toList)=true:=by rw [ByteArray.toList_eq,ByteArray.toList_eq];exact beq_iff_eq.2 hq
     have HNB:Hid (numB s=some v):=by
      show _=_;unfold numB;rw [HP.out];dsimp only;rw [if_pos hq]
     have HNX:Hid (eY0 (ws.take (k+1))=some (l++[v])):=by
      show _=_;obtain ⟨hk',e'⟩:=List.getElem?_eq_some_iff.1 HSK.out;rw [List.take_succ_eq_append_getElem hk',e',qS0,HL.out,HNB.out]
     have c3:w3.cell? ⟨w.heap.size,k,none⟩=some (.int .i64 0):=by
      rw [HR3.out.cellAt k (by omega),←hll];exact sF1 (by omega)
     have f3:=HR3.out.frozenAt k;have HS3:Hid _:=(HR3.out.stored k (.int .i64 v)).1;have HB4:Hid (Below w.heap.size w (w3.setCell ⟨w.heap.size,k,none⟩ (.int .i64 v))):=HB3.out.setCell (p:=⟨w.heap.size,k,none⟩) lR7 _;have HE:Hid ((numV l ws.length).set k (.int .i64 v)=numV (l++[v]) ws.length):=by show _=_;rw [←hll];exact pM1 (by omega) v
     clear hq hll;go_wp2_with fail;go_roundw
     case rel=>exact ⟨k+1,l++[v],hlt,by go_num,HNX.out,by rw [←HE.out];exact HS3.out,HB4.out⟩
     case measure=>first | (simp [intOf];omega) | (show ws.length - (k+1)<ws.length - k;omega) | omega
    ·have hq1:((baOf (Lib.itoa v)).toList == s.toList)=false:=by rw [ByteArray.toList_eq,ByteArray.toList_eq];exact beq_eq_false_iff_ne.2 hq
     have HN:Hid (eY0 ws=none):=lV0 ws (List.mem_of_getElem? HSK.out) (by
      unfold numB;rw [HP.out];dsimp only;rw [if_neg hq])
     clear hq hll;go_wp2_with fail;exact ⟨rfl,Or.inl ⟨HN.out,rfl⟩,HB3.out⟩
   ·have HN:Hid (numB s=none):=by
     show _=_;unfold numB;split
     ·rename_i v hv;exact absurd hv (hno v)
     ·rfl
    have HNN:Hid (eY0 ws=none):=lV0 ws (List.mem_of_getElem? HSK.out) HN.out;clear hno;go_wp2_with fail;exact ⟨rfl,Or.inl ⟨HNN.out,rfl⟩,HB2.out⟩
  ·obtain rfl:k=ws.length:=by omega
   have HL2:Hid (eY0 ws=some l):=by show _=_;have:=HL.out;rwa [List.take_length] at this
   have hll:=hE0 _ HL2.out
   have HR2:Hid (wr.ownsRow w.heap.size 3 1 (.slice (some ⟨w.heap.size,0,none⟩) ws.length ws.length) l.length (xB0 l)):=by
    have:=HR1.out;rw [←hll,pN1] at this;rw [←hll];exact this
   clear hlt hll;go_wp2_with fail;go_ret;exact ⟨Or.inr ⟨l,_,HL2.out,rfl,HR2.out⟩,HB1.out⟩
theorem sG1 (a b:List UInt8):(⟨a.toArray⟩:ByteArray)++baOf b=baOf (a++b):=by
 apply ByteArray.ext;rw [ByteArray.data_append];simp [baOf]
theorem sF0 (a:List UInt8):(baOf a).size=a.length:=by simp [baOf,ByteArray.size]
set_option maxHeartbeats 400000 in
theorem pO1 (n:Int) (w:World) (hn:in64 n) (ht:eZ0 w):
  Calls Tryz.prog 7 #[.iface 26 (.int .i64 n)] w fun e w'=>e=.returned (.string (baOf (errT n)))∧Below w.heap.size w w':=by
 have hta:∀(w:World) (n:Int),(Instr.typeAssert (.iface 26 (.int .i64 n)) 20 26 true).run Tryz.prog w=.ok (.tuple #[.int .i64 n,.bool true]) w:=fun _ _=>by kernel_rfl
 have hlen:=Lib.itoa_length_le n hn.1 hn.2;have HE:Hid ((⟨#[101,114,114,111,114,32]⟩:ByteArray)++baOf (Lib.itoa n)=baOf (errT n)):=sG1 [101,114,114,111,114,32] (Lib.itoa n);have hs:=sF0 (Lib.itoa n);go_enter Tryz.func7,Tryz.ntmps7;go_wp2_with fail;refine (mN1 n w hn.1 hn.2 ht).mono ?_;rintro e w1 ⟨rfl,hb1⟩;have HB:Hid (Below w.heap.size w w1):=hb1;clear hb1;go_wp2_with fail;go_ret;exact ⟨by rw [←HE.out];rfl,HB.out⟩
def nC1 (n:Int) (e:Ending):Prop:=(n=0∧e=.returned (.tuple #[]))∨(n≠0∧e=.panicked [{ v:=.iface 26 (.int .i64 n),recovered:=false }])
set_option maxRecDepth 8000 in
set_option maxHeartbeats 400000 in
theorem gQ1 (err:Value) (n k:Int) (w:World) (hg:ErrT w) (h:tW0 w err n k) (hn:err=.nilIface∨n≠0):
  Calls Tryz.prog 66 #[err] w fun e w'=>nC1 n e∧Below w.heap.size w w':=by
 have q1:∀(w:World) (t:TypeId) (p:Value),(binOp .neq 43 (.iface t p) .nilIface).run Tryz.prog w=.ok (.bool true) w:=fun _ _ _=>by rfl
 have q0:∀(w:World),(binOp .neq 43 .nilIface .nilIface).run Tryz.prog w=.ok (.bool false) w:=fun _=>by rfl
 have hmi:∀(w:World) (n:Int),(Instr.makeInterface 26 (.int .i64 n)).run Tryz.prog w=.ok (.iface 26 (.int .i64 n)) w:=fun _ _=>by rfl
 have H:Hid (tW0 w err n k):=h;have HG:Hid (ErrT w):=hg;clear hg;rcases h with ⟨rfl,rfl,rfl⟩ | ⟨rfl,rfl⟩ | ⟨b,o,rfl,h1,h2⟩
 ·go_enter Tryz.func66,Tryz.ntmps66;go_wp2_with fail
  first
   | exact ⟨Or.inl ⟨rfl,rfl⟩,Below.refl _ _⟩
   | (go_end0;exact ⟨Or.inl ⟨rfl,rfl⟩,Below.refl _ _⟩)
   | (go_ret;exact ⟨Or.inl ⟨rfl,rfl⟩,Below.refl _ _⟩)
 ·have HN:Hid (n≠0):=hn.resolve_left (fun e=>by cases e);clear hn;go_enter Tryz.func66,Tryz.ntmps66;go_wp2_with fail;refine (yK0 _ n (-1) w HG.out H.out).mono ?_;rintro e w1 ⟨rfl,hb1⟩;have HB:Hid (Below w.heap.size w w1):=hb1;clear hb1;go_wp2_with fail;exact ⟨rfl,Or.inr ⟨HN.out,rfl⟩,HB.out⟩
 ·have HN:Hid (n≠0):=hn.resolve_left (fun e=>by cases e);clear hn h1 h2;go_enter Tryz.func66,Tryz.ntmps66;go_wp2_with fail;refine (yK0 _ n k w HG.out H.out).mono ?_;rintro e w1 ⟨rfl,hb1⟩;have HB:Hid (Below w.heap.size w w1):=hb1;clear hb1;go_wp2_with fail;exact ⟨rfl,Or.inr ⟨HN.out,rfl⟩,HB.out⟩
def lW0 (w:World) (a:Option Addr) (l:List Fil):Prop:=∀k,k<l.length→∃b off,a=some ⟨b,off,none⟩∧w.cell? ⟨b,off+k*4,none⟩=some (.int .i64 (fAt l k).buyer)∧w.cell? ⟨b,off+k*4+1,none⟩=some (.int .i64 (fAt l k).seller)∧w.cell? ⟨b,off+k*4+2,none⟩=some (.int .i64 (fAt l k).price)∧w.cell? ⟨b,off+k*4+3,none⟩=some (.int .i64 (fAt l k).qty)
theorem lW0.of_row {w:World} {base:Nat} {v:Value} {l:List Fil} (h:w.ownsRow base 146 4 v l.length (fV l)):∃a cap,v=.slice a l.length cap∧lW0 w a l:=by
 obtain ⟨a,cap,rfl,_,_⟩:=aY0 h;refine ⟨a,cap,rfl,fun k hk=>?_⟩;obtain ⟨g,cap',e,_,_⟩:=h.form (by omega);simp only [Value.slice.injEq,true_and] at e;obtain ⟨rfl,rfl⟩:=e;obtain ⟨h1,h2,h3,h4⟩:=tB1 hk;exact ⟨g,0,rfl,by simpa using (h.cellAt _ (by omega)).trans h1,by simpa using (h.cellAt _ (by omega)).trans h2,by simpa using (h.cellAt _ (by omega)).trans h3,by simpa using (h.cellAt _ (by omega)).trans h4⟩
theorem bB0 {w w':World} {p:Addr} {v:Value} (hb:Below w.heap.size w w') (h:w.cell? p=some v):w'.cell? p=some v:=(hb.cell (World.block_lt_of_cell? w _ h)).trans h
theorem pP1 {l:List Fil} {k:Nat} (h:k<l.length):fAt l k∈l:=by
 have:fAt l k=l[k]:=by simp [fAt,h]
 rw [this];exact List.getElem_mem h
def strV (xs:List (List UInt8)):List Value:=xs.map (fun x=>Value.string (baOf x))
theorem lJ1 {w:World} {base g cap:Nat} {xs:List (List UInt8)} (h:w.ownsRow base 9 1 (.slice (some ⟨g,0,none⟩) xs.length cap) xs.length (strV xs)):eL1 w g 0 xs:=fun j x hj=>by
 have hjl:j<xs.length:=(List.getElem?_eq_some_iff.1 hj).1;have:=h.cellAt j (by omega);rw [Nat.zero_add,this];simp [strV,hj]
theorem zE0 {f:Fil} (h:filI f):(filT f).length≤88:=by
 have:=dI0 (m:=21) ([f.buyer,f.seller,f.price,f.qty].map Lib.itoa) [32] (fun x hx=>by
  obtain ⟨z,hz,rfl⟩:=List.mem_map.1 hx;simp only [List.mem_cons,List.not_mem_nil,or_false] at hz;rcases hz with rfl | rfl | rfl | rfl
  ·exact Lib.itoa_length_le _ h.1.1 h.1.2
  ·exact Lib.itoa_length_le _ h.2.1.1 h.2.1.2
  ·exact Lib.itoa_length_le _ h.2.2.1.1 h.2.2.1.2
  ·exact Lib.itoa_length_le _ h.2.2.2.1 h.2.2.2.2)
 simpa [filT,rowT] using this
theorem hG0 (w:World) (l:List Int) (t:TypeId):∀j z,l[j]? = some z→(w.alloc (.cells (l.map (fun z=>Value.int .i64 z)).toArray t)).cell? ⟨w.heap.size,0+j,none⟩=some (.int .i64 z):=fun j z hj=>by
 have h:=heap_alloc_new w (.cells (l.map (fun z=>Value.int .i64 z)).toArray t);rw [Nat.zero_add];exact aA0 h (by simp [hj])
set_option maxRecDepth 8000 in
set_option maxHeartbeats 4000000 in
theorem nD1 (t:List UInt8) (a:Option Addr) (cap:Nat) (fs:List Fil) (w:World) (hf:lW0 w a fs) (hi:∀f∈fs,filI f) (hn:fs.length≤1000) (htl:t.length≤1000) (ht:eZ0 w):
  Calls Tryz.prog 70 #[.string (baOf t),.slice a fs.length cap] w fun e w'=>e=.returned (.string (baOf (tX0 t fs)))∧Below w.heap.size w w':=by
 obtain ⟨i0,hi0,hz0,hz1,hz2⟩:=info_parts Tryz.infoStr;have HF:Hid (lW0 w a fs):=hf;have HI:Hid (∀f∈fs,filI f):=hi;have HT:Hid (eZ0 w):=ht;clear hf hi ht;go_enter Tryz.func70,Tryz.ntmps70;go_upto_region 2 with fail;have ho:(w.alloc (.cells #[.string (baOf t)] 9)).ownsRow w.heap.size 9 1 (.slice (some ⟨w.heap.size,0,none⟩) 1 1) 1 (strV [t]):=World.ownsRow_lit w #[.string (baOf t)] 1 lR7 (by unfold maxLen;omega) rfl;have hb:=bel1 w (.cells #[.string (baOf t)] 9);generalize w.alloc (.cells #[.string (baOf t)] 9)=w1 at ho hb ⊢;have HO:Hid _:=ho;have HB:Hid (Below w.heap.size w w1):=hb;clear ho hb;go_wp2_with fail
 go_loopw [5,7,12] (fun u5 _ u wr=>∃k:Nat,k≤fs.length∧u=.int .i64 k∧wr.ownsRow w.heap.size 9 1 u5 (k+1) (strV (t::(fs.take k).map filT))∧Below w.heap.size w wr)
  (fun _ _ u _=>fs.length - (intOf u).toNat)
 case atStart=>exact ⟨0,Nat.zero_le _,rfl,HO.out,HB.out⟩
 case round=>
  obtain ⟨k,hk,rfl,hrow,hb⟩:=hrel;have HB1:Hid (Below w.heap.size w wr):=hb;obtain ⟨g,vc,rfl⟩:=ownsRow_succ hrow;have HR1:Hid _:=hrow;clear hrow hb
  by_cases hlt:k<fs.length
  ·obtain ⟨b,off,rfl,c0,c1,c2,c3⟩:=HF.out k hlt;have d0:=bB0 HB1.out c0;have d1:=bB0 HB1.out c1;have d2:=bB0 HB1.out c2;have d3:=bB0 HB1.out c3;have HFI:Hid (filI (fAt fs k)):=HI.out _ (pP1 hlt)
   have HTK:Hid ((fs.take (k+1)).map filT=(fs.take k).map filT++[filT (fAt fs k)]):=by
    show _=_;have e:fAt fs k=fs[k]:=by simp [fAt,hlt]
    rw [List.take_succ_eq_append_getElem hlt,List.map_append,e];rfl
   clear c0 c1 c2 c3;generalize fAt fs k=f at d0 d1 d2 d3 HFI HTK;go_upto_region 5 with fail;have hX:=heap_alloc_new wr (.cells #[.int .i64 f.buyer,.int .i64 f.seller,.int .i64 f.price,.int .i64 f.qty] 146);have hbA:=bel1 wr (.cells #[.int .i64 f.buyer,.int .i64 f.seller,.int .i64 f.price,.int .i64 f.qty] 146);have HR2:Hid ((wr.alloc (.cells #[.int .i64 f.buyer,.int .i64 f.seller,.int .i64 f.price,.int .i64 f.qty] 146)).ownsRow w.heap.size 9 1 (.slice (some ⟨g,0,none⟩) (k+1) vc) (k+1) (strV (t::(fs.take k).map filT))):=aS0 HR1.out hbA lR7;have HB2:Hid (Below w.heap.size w (wr.alloc (.cells #[.int .i64 f.buyer,.int .i64 f.seller,.int .i64 f.price,.int .i64 f.qty] 146))):=aC0 HB1.out hbA;generalize wr.alloc (.cells #[.int .i64 f.buyer,.int .i64 f.seller,.int .i64 f.price,.int .i64 f.qty] 146)=W at hX hbA HR2 HB2 ⊢;generalize wr.heap.size=xb at hX ⊢;have y0:=aA0 (j:=0) hX rfl;have y1:=aA0 (j:=1) hX rfl;have y2:=aA0 (j:=2) hX rfl;have y3:=aA0 (j:=3) hX rfl;clear hX hbA d0 d1 d2 d3;go_wp2_with fail;have hbL:=bel1 W (.cells #[.int .i64 f.buyer,.int .i64 f.seller,.int .i64 f.price,.int .i64 f.qty] 3)
   refine (aQ1 W.heap.size 0 4 [f.buyer,f.seller,f.price,f.qty] _ (hG0 W [f.buyer,f.seller,f.price,f.qty] 3) (fun z hz=>by
    simp only [List.mem_cons,List.not_mem_nil,or_false] at hz;rcases hz with rfl | rfl | rfl | rfl
    ·exact HFI.out.1
    ·exact HFI.out.2.1
    ·exact HFI.out.2.2.1
    ·exact HFI.out.2.2.2) (by simp) (by simp) ((HT.out.below HB2.out).below hbL)).mono ?_
   rintro e w3 ⟨rfl,hb3⟩;have HB3:Hid (Below w.heap.size w w3):=aC0 HB2.out (aC0 hbL hb3);have HR3:Hid (w3.ownsRow w.heap.size 9 1 (.slice (some ⟨g,0,none⟩) (k+1) vc) (k+1) (strV (t::(fs.take k).map filT))):=aS0 HR2.out (aC0 hbL hb3) lR7;clear hbL hb3 y0 y1 y2 y3;go_wp2_with (at_builtin;refine wpList_append_own_at _ rfl _ _ 49 rfl w.heap.size 9 i0 (.string ⟨#[]⟩) 1 16 Tryz.underlying49 hi0 hz0 hz1 hz2 rfl (by decide) _ (k+1) (strV (t::(fs.take k).map filT)) rfl (HR3.out.alloc _) ⟨w3.heap.size,0,none⟩ 1 1 [.string (baOf (rowT [f.buyer,f.seller,f.price,f.qty]))] rfl rfl (World.news_of_block (cs:=#[.string (baOf (rowT [f.buyer,f.seller,f.price,f.qty]))]) (t:=9) (fr:=(0,0)) (heap_alloc_new w3 _)) (by simp [Value.oneCell']) (by unfold maxLen;omega) (by omega) (by have:=HB3.out.size;simp;omega) ?_;intro v' w6 hown6 hgrow6 _ _);go_roundw
   case rel=>
    refine ⟨k+1,hlt,by go_num,?_,(HB3.out.alloc HB3.out.size _).grown hgrow6 (by have:=HB3.out.size;simp;omega) (fun q hq=>(HR3.out.lt q hq).1)⟩;rw [HTK.out];have:strV (t::((fs.take k).map filT++[filT f]))=strV (t::(fs.take k).map filT)++[.string (baOf (rowT [f.buyer,f.seller,f.price,f.qty]))]:=by simp [strV,filT]
    rw [this];exact hown6
   case measure=>first | (simp [intOf];omega) | (show fs.length - (k+1)<fs.length - k;omega) | omega
  ·obtain rfl:k=fs.length:=by omega
   have HR2:Hid (wr.ownsRow w.heap.size 9 1 (.slice (some ⟨g,0,none⟩) (t::fs.map filT).length vc) (t::fs.map filT).length (strV (t::fs.map filT))):=by
    have:=HR1.out;rw [List.take_length] at this;rw [List.length_cons,List.length_map];exact this
   have HST:=lJ1 HR2.out
   have hcap:(t::fs.map filT).length≤vc:=by
    rcases HR2.out.2 with ⟨e,_⟩ | ⟨g',cap',cur,e,_,_,hnc,_⟩
    ·cases e
    ·simp only [Value.slice.injEq] at e;rw [e.2.2];exact hnc
   have hjl:(Lib.join (t::fs.map filT) [44,32]).length≤100000000:=by
    have:=dI0 (m:=1000) (t::fs.map filT) [44,32] (fun x hx=>by
     rcases List.mem_cons.1 hx with rfl | hx
     ·exact htl
     ·obtain ⟨f,hf,rfl⟩:=List.mem_map.1 hx;have:=zE0 (HI.out f hf);omega)
    simp at this;omega
   have hj:=eM1 g 0 vc (t::fs.map filT) [44,32] wr HST (by simp) (by simp;omega) hcap hjl;rw [List.length_cons,List.length_map] at hj;clear hlt HST;go_wp2_with fail;refine hj.mono ?_;rintro e w3 ⟨rfl,hb3⟩;have HB3:Hid (Below w.heap.size w w3):=aC0 HB1.out hb3;clear hb3 hj;go_wp2_with fail;go_ret;exact ⟨rfl,HB3.out⟩
theorem zF0 {o:Ord} (h:jG0 o):(ordT o).length≤88:=by
 have:=dI0 (m:=21) ([o.id,o.kind,o.price,o.qty].map Lib.itoa) [32] (fun x hx=>by
  obtain ⟨z,hz,rfl⟩:=List.mem_map.1 hx;simp only [List.mem_cons,List.not_mem_nil,or_false] at hz;rcases hz with rfl | rfl | rfl | rfl
  ·exact Lib.itoa_length_le _ h.1.1 h.1.2
  ·exact Lib.itoa_length_le _ h.2.1.1 h.2.1.2
  ·exact Lib.itoa_length_le _ h.2.2.1.1 h.2.2.1.2
  ·exact Lib.itoa_length_le _ h.2.2.2.1 h.2.2.2.2)
 simpa [ordT,rowT] using this
set_option maxRecDepth 8000 in
set_option maxHeartbeats 4000000 in
theorem zG0 (a:Option Addr) (cap:Nat) (l:List Ord) (w:World) (hl:bX0 w a l) (hi:∀o∈l,jG0 o) (hn:l.length≤1000) (ht:eZ0 w):
  Calls Tryz.prog 79 #[.slice a l.length cap] w fun e w'=>e=.returned (.string (baOf (tY0 l)))∧Below w.heap.size w w':=by
 obtain ⟨i0,hi0,hz0,hz1,hz2⟩:=info_parts Tryz.infoStr;have HL:Hid (bX0 w a l):=hl;have HI:Hid (∀o∈l,jG0 o):=hi;have HT:Hid (eZ0 w):=ht;clear hl hi ht;go_enter Tryz.func79,Tryz.ntmps79;go_wp2_with (at_make;refine wpList_make_full _ rfl _ _ 49 rfl w.heap.size 9 i0 (.string ⟨#[]⟩) 1 Tryz.underlying49 hi0 hz0 hz1 _ _ _ _ l.length rfl rfl (by go_num) (by go_num) (by rw [hz2];omega) (by unfold maxLen;omega) lR7 ?_;intro wt hownt hgt);have hbt:Below w.heap.size w wt:=(Below.refl _ _).grown hgt lR7 (fun _ hq=>by cases hq);rw [show (Value.string ⟨#[]⟩:Value).cells=#[.string ⟨#[]⟩] from rfl,Nat.mul_one,toList_madeCells_one,←yO0 ordT l] at hownt;have HO:Hid _:=hownt;have HB:Hid (Below w.heap.size w wt):=hbt;clear hownt hbt hgt hi0 hz0 hz1 hz2;go_wp2_with fail
 go_loopw [4,5,11] (fun _ _ u wr=>∃k:Nat,k≤l.length∧u=.int .i64 k∧wr.ownsRow w.heap.size 9 1 (.slice (some ⟨w.heap.size,0,none⟩) l.length l.length) l.length (wrdV ordT l k)∧Below w.heap.size w wr)
  (fun _ _ u _=>l.length - (intOf u).toNat)
 case atStart=>exact ⟨0,Nat.zero_le _,rfl,HO.out,HB.out⟩
 case round=>
  obtain ⟨k,hk,rfl,hrow,hb⟩:=hrel;have HB1:Hid (Below w.heap.size w wr):=hb;have HR1:Hid _:=hrow;clear hrow hb
  by_cases hlt:k<l.length
  ·obtain ⟨b,off,rfl,c0,c1,c2,c3,c4⟩:=HL.out k hlt;have d0:=bB0 HB1.out c0;have d1:=bB0 HB1.out c1;have d2:=bB0 HB1.out c2;have d3:=bB0 HB1.out c3;have d4:=bB0 HB1.out c4
   have HZ:Hid (l[k]? = some (oAt l k)):=by
    show _=_;simp [oAt,hlt]
   have HFI:Hid (jG0 (oAt l k)):=HI.out _ (List.mem_of_getElem? HZ.out);clear c0 c1 c2 c3 c4;generalize oAt l k=o at d0 d1 d2 d3 d4 HFI HZ;go_upto_region 5 with fail;have hX:=heap_alloc_new wr (.cells #[.int .i64 o.id,.int .i64 o.side,.int .i64 o.kind,.int .i64 o.price,.int .i64 o.qty] 92);have hbA:=bel1 wr (.cells #[.int .i64 o.id,.int .i64 o.side,.int .i64 o.kind,.int .i64 o.price,.int .i64 o.qty] 92);have HR2:Hid ((wr.alloc (.cells #[.int .i64 o.id,.int .i64 o.side,.int .i64 o.kind,.int .i64 o.price,.int .i64 o.qty] 92)).ownsRow w.heap.size 9 1 (.slice (some ⟨w.heap.size,0,none⟩) l.length l.length) l.length (wrdV ordT l k)):=aS0 HR1.out hbA lR7;have HB2:Hid (Below w.heap.size w (wr.alloc (.cells #[.int .i64 o.id,.int .i64 o.side,.int .i64 o.kind,.int .i64 o.price,.int .i64 o.qty] 92))):=aC0 HB1.out hbA;generalize wr.alloc (.cells #[.int .i64 o.id,.int .i64 o.side,.int .i64 o.kind,.int .i64 o.price,.int .i64 o.qty] 92)=W at hX hbA HR2 HB2 ⊢;generalize wr.heap.size=xb at hX ⊢;have y0:=aA0 (j:=0) hX rfl;have y2:=aA0 (j:=2) hX rfl;have y3:=aA0 (j:=3) hX rfl;have y4:=aA0 (j:=4) hX rfl;clear hX hbA d0 d1 d2 d3 d4;go_wp2_with fail;have hbL:=bel1 W (.cells #[.int .i64 o.id,.int .i64 o.kind,.int .i64 o.price,.int .i64 o.qty] 3)
   refine (aQ1 W.heap.size 0 4 [o.id,o.kind,o.price,o.qty] _ (hG0 W [o.id,o.kind,o.price,o.qty] 3) (fun z hz=>by
    simp only [List.mem_cons,List.not_mem_nil,or_false] at hz;rcases hz with rfl | rfl | rfl | rfl
    ·exact HFI.out.1
    ·exact HFI.out.2.1
    ·exact HFI.out.2.2.1
    ·exact HFI.out.2.2.2) (by simp) (by simp) ((HT.out.below HB2.out).below hbL)).mono ?_
   rintro e w3 ⟨rfl,hb3⟩;have HB3:Hid (Below w.heap.size w w3):=aC0 HB2.out (aC0 hbL hb3);have HR3:Hid (w3.ownsRow w.heap.size 9 1 (.slice (some ⟨w.heap.size,0,none⟩) l.length l.length) l.length (wrdV ordT l k)):=aS0 HR2.out (aC0 hbL hb3) lR7;obtain ⟨v,hv,_⟩:=mO1 (f:=ordT) hk hlt;have c2:w3.cell? ⟨w.heap.size,k,none⟩=some v:=by rw [HR3.out.cellAt k (by omega)];exact hv
   have f2:=HR3.out.frozenAt k;have HS:Hid _:=(HR3.out.stored k (.string (baOf (rowT [o.id,o.kind,o.price,o.qty])))).1;have HB4:Hid (Below w.heap.size w (w3.setCell ⟨w.heap.size,k,none⟩ (.string (baOf (rowT [o.id,o.kind,o.price,o.qty]))))):=HB3.out.setCell (p:=⟨w.heap.size,k,none⟩) lR7 _;have HE:Hid ((wrdV ordT l k).set k (.string (baOf (rowT [o.id,o.kind,o.price,o.qty])))=wrdV ordT l (k+1)):=eN1 (f:=ordT) HZ.out;clear hbL hb3 y0 y2 y3 y4 hv;go_wp2_with fail;go_roundw
   case rel=>exact ⟨k+1,hlt,by go_num,by rw [←HE.out];exact HS.out,HB4.out⟩
   case measure=>first | (simp [intOf];omega) | (show l.length - (k+1)<l.length - k;omega) | omega
  ·obtain rfl:k=l.length:=by omega
   by_cases h0:l.length=0
   ·have hl0:l=[]:=List.length_eq_zero_iff.1 h0;have hj:=wJ0 (some ⟨w.heap.size,0,none⟩) l.length (baOf [44,32]) wr;rw [h0] at hj;have HE:Hid (tY0 l=[]):=by show _=_;rw [hl0];rfl
    have e0:(l.length:Int)=0:=by omega
    clear hlt hl0;go_wp2_with fail;rw [h0];refine hj.mono ?_;rintro e w3 ⟨rfl,hb3⟩;have HB3:Hid (Below w.heap.size w w3):=aC0 HB1.out hb3;clear hb3 hj;go_wp2_with fail;go_ret;exact ⟨by rw [HE.out];rfl,HB3.out⟩
   ·have HST:=yP0 HR1.out
    have hjl:(Lib.join (l.map ordT) [44,32]).length≤100000000:=by
     have:=dI0 (m:=88) (l.map ordT) [44,32] (fun x hx=>by
      obtain ⟨o,ho,rfl⟩:=List.mem_map.1 hx;exact zF0 (HI.out o ho))
     simp at this;omega
    have hj:=eM1 w.heap.size 0 l.length (l.map ordT) [44,32] wr HST (by simp;omega) (by simp;omega) (by simp) hjl;rw [List.length_map] at hj;clear hlt HST;go_wp2_with fail;refine hj.mono ?_;rintro e w3 ⟨rfl,hb3⟩;have HB3:Hid (Below w.heap.size w w3):=aC0 HB1.out hb3;clear hb3 hj;go_wp2_with fail;go_ret;exact ⟨rfl,HB3.out⟩
end Go.Proofs.YtaelphbianmckaaGreatDoor
namespace Go.Proofs.YtaelphbianmckaaGreatDoor
open Go.RowKit
section
variable {P:Program} {ops:Array Oper} {Q:Exit→Act→World→Prop} {md:Region.Mode} {S:Nat→World→Prop} {L:Nat→Nat→Bool}
def fM0 (P:Program) (md:Region.Mode) (ops:Array Oper) (Q:Exit→Act→World→Prop) (S:Nat→World→Prop) (L:Nat→Nat→Bool):Nat→Array Bool→Act→World→Prop
 | 0,listed,a,w=>Region.ready md ops listed=[]∧Q .normal a w
 | fuel+1,listed,a,w=>(Region.ready md ops listed=[]→Q .normal a w)∧∀i∈Region.ready md ops listed,wpOp P ops Q i (fun a' w'=>(∀n,L n i=false→S n w→S n w')∧fM0 P md ops Q S L fuel (listed.setIfInBounds i true) a' w') a w
theorem jI0:∀(fuel:Nat) (listed:Array Bool) (a:Act) (w:World),fM0 P md ops Q S L fuel listed a w→wpAny P md ops Q fuel listed a w
 | 0,_,_,_,h=>h
 | fuel+1,_,_,_,h=>⟨h.1,fun i hi=>wpOp_mono (fun a' w' h'=>jI0 fuel _ a' w' h'.2) (h.2 i hi)⟩
theorem mI0 {i:Nat} {oi:Oper} {v:Value} {D:World→Prop} (hi:ops[i]? = some oi) (hsel:∀(j:Nat) (o:Oper) cs b,ops[j]? = some o→o.op≠.select cs b) (hQ:∀c a w,Q (.panic c) (a.put oi.dst v) w→Q (.panic c) a w)
  (hD:∀(listed:Array Bool) (j:Nat) (w w':World),Down md ops listed→listed.getD i true=false→j∈Region.ready md ops listed→(∀n,L n j=false→S n w→S n w')→D w→D w'):
  ∀(fuel:Nat) (listed:Array Bool) (a:Act) (w:World),
   (∀j oj,ops[j]? = some oj→j≠i→listed.getD j true=false→(∀e∈oj.after,Region.binds md e=true→e.on≠i)→oi.apart ops oj=true)→Down md ops listed→
   i∈Region.ready md ops listed→YieldsIf P ops D oi v a→D w→fM0 P md ops Q S L fuel (listed.setIfInBounds i true) (a.put oi.dst v) w→fM0 P md ops Q S L (fuel+1) listed a w:=by
 intro fuel
 induction fuel with
 | zero=>
  intro listed a w _ _ hr hy hS H;refine ⟨fun h=>(by rw [h] at hr;cases hr),fun j hj=>?_⟩
  by_cases hji:j=i
  ·subst hji;exact hy.wpOp hi hS ⟨fun _ _ h=>h,H⟩
  ·have:=ready_mono hj hji;rw [H.1] at this;cases this
 | succ fuel ih=>
  intro listed a w hfree hd hr hy hS H;refine ⟨fun h=>(by rw [h] at hr;cases hr),fun j hj=>?_⟩
  by_cases hji:j=i
  ·subst hji;exact hy.wpOp hi hS ⟨fun _ _ h=>h,H⟩
  obtain ⟨hjun,oj,hoj,hall⟩:=mem_ready.1 hj;have hun:listed.getD i true=false:=(mem_ready.1 hr).1
  have hnot:∀e∈oj.after,Region.binds md e=true→e.on≠i:=fun e he hb heq=>by
   have h1:=hall e he hb;rw [heq] at h1;rcases Nat.lt_or_ge i listed.size with h' | h'
   ·simp [h'] at hun h1;rw [hun] at h1;cases h1
   ·simp [Array.getElem?_eq_none h'] at h1
  have h2:=wpOp_putIf hoj (hfree j oj hoj hji hjun hnot) (fun cs b=>hsel i oi cs b hi) (fun cs b=>hsel j oj cs b hoj) hQ hy (H.2 j (ready_mono hj hji))
  refine wpOp_mono (fun a' w' h3=>⟨h3.2.1,ih (listed.setIfInBounds j true) a' w' (fun k ok hk hki hku hno=>hfree k ok hk hki (by
   by_cases hjk:j=k
   ·subst hjk;exact hjun
   ·rw [getD_set_ne true hjk] at hku;exact hku) hno) (hd.more hj) (ready_mono hr (Ne.symm hji)) h3.1 (hD listed j w w' hd hun hj h3.2.1 hS) ?_⟩) h2
  rw [Array.setIfInBounds_comm _ _ hji];exact h3.2.2
theorem xC0 (n:Nat) {i:Nat} {oi:Oper} {v:Value} {fuel:Nat} {listed:Array Bool} {a:Act} {w:World} (hi:ops[i]? = some oi) (hs:Region.noSelect ops=true) (hf:Region.free md ops listed i=true) (hr:(Region.ready md ops listed).contains i=true) (hl:aB1 md ops (L n) i=true) (hd:vM0 md ops listed=true)
  (hQ:∀c a w,Q (.panic c) (a.put oi.dst v) w→Q (.panic c) a w) (hw:Region.wanted oi (yielded ops a.tmps)=true) (hy:∀w,S n w→(execOp a.eval oi).run P w=.ok (.value v) w) (hS:S n w)
  (h:fM0 P md ops Q S L fuel (listed.setIfInBounds i true) (a.put oi.dst v) w):fM0 P md ops Q S L (fuel+1) listed a w:=
 mI0 (D:=S n) hi (Region.noSelect_spec hs) hQ (fun listed' j w w' hd' hun hj hk hS'=>hk n (xT0 hl hd' (by
   rcases Nat.lt_or_ge i listed'.size with h' | h'
   ·simpa [h'] using hun
   ·simp [Array.getElem?_eq_none h']) hj) hS') fuel listed a w (Region.free_spec hi hf) (nO0 hd) (by simpa using hr) (Or.inl ⟨hw,hy⟩) hS h
theorem tkM7 (n:Nat) {i:Nat} {oi:Oper} {v:Value} {fuel:Nat} {listed:Array Bool} {a:Act} {w:World} (hi:ops[i]? = some oi) (hk:(Region.noSelect ops&& Region.free md ops listed i&& (Region.ready md ops listed).contains i&& aB1 md ops (L n) i&& vM0 md ops listed)=true)
  (hQ:∀c a w,Q (.panic c) (a.put oi.dst v) w→Q (.panic c) a w) (hw:Region.wanted oi (yielded ops a.tmps)=true) (hy:∀w,S n w→(execOp a.eval oi).run P w=.ok (.value v) w) (hS:S n w)
  (h:fM0 P md ops Q S L fuel (listed.setIfInBounds i true) (a.put oi.dst v) w):fM0 P md ops Q S L (fuel+1) listed a w:=by
 simp only [Bool.and_eq_true] at hk;exact xC0 n hi hk.1.1.1.1 hk.1.1.1.2 hk.1.1.2 hk.1.2 hk.2 hQ hw hy hS h
theorem xD0 {i:Nat} {oi:Oper} {v:Value} {fuel:Nat} {listed:Array Bool} {a:Act} {w:World} (hi:ops[i]? = some oi) (hs:Region.noSelect ops=true) (hf:Region.free md ops listed i=true) (hr:(Region.ready md ops listed).contains i=true) (hd:vM0 md ops listed=true)
  (hQ:∀c a w,Q (.panic c) (a.put oi.dst v) w→Q (.panic c) a w) (hw:Region.wanted oi (yielded ops a.tmps)=true) (hy:∀w,(execOp a.eval oi).run P w=.ok (.value v) w)
  (h:fM0 P md ops Q S L fuel (listed.setIfInBounds i true) (a.put oi.dst v) w):fM0 P md ops Q S L (fuel+1) listed a w:=
 mI0 (D:=fun _=>True) hi (Region.noSelect_spec hs) hQ (fun _ _ _ _ _ _ _ _ _=>trivial) fuel listed a w (Region.free_spec hi hf) (nO0 hd) (by simpa using hr) (Or.inl ⟨hw,fun w _=>hy w⟩) trivial h
theorem puM7 {i:Nat} {oi:Oper} {v:Value} {fuel:Nat} {listed:Array Bool} {a:Act} {w:World} (hi:ops[i]? = some oi) (hk:(Region.noSelect ops&& Region.free md ops listed i&& (Region.ready md ops listed).contains i&& vM0 md ops listed)=true)
  (hQ:∀c a w,Q (.panic c) (a.put oi.dst v) w→Q (.panic c) a w) (hw:Region.wanted oi (yielded ops a.tmps)=true) (hy:∀w,(execOp a.eval oi).run P w=.ok (.value v) w)
  (h:fM0 P md ops Q S L fuel (listed.setIfInBounds i true) (a.put oi.dst v) w):fM0 P md ops Q S L (fuel+1) listed a w:=by
 simp only [Bool.and_eq_true] at hk;exact xD0 hi hk.1.1.1 hk.1.1.2 hk.1.2 hk.2 hQ hw hy h
theorem hH0 {i:Nat} {o:Oper} {fuel:Nat} {listed:Array Bool} {a:Act} {w:World} (hr:Region.ready md ops listed=[i]) (ho:ops[i]? = some o)
  (h:∀K':Act→World→Prop,Shut (∀a w',(∀n,L n i=false→S n w→S n w')→fM0 P md ops Q S L fuel (listed.setIfInBounds i true) a w'→K' a w')→if Region.wanted o (yielded ops a.tmps)=true then Oper.wp P o a w K' Q else K' (a.put o.dst undef) w):fM0 P md ops Q S L (fuel+1) listed a w:=
 ⟨fun h0=>(by rw [hr] at h0;cases h0),fun j hj=>by
  rw [hr] at hj;rcases List.mem_cons.1 hj with rfl | hj
  ·exact wpOp_step ho (fun K' hK=>h K' (fun a w' hS hW=>hK a w' ⟨hS,hW⟩))
  ·cases hj⟩
theorem gB0 {listed:Array Bool} {a:Act} {w:World} (hr:Region.ready md ops listed=[]) (h:Q .normal a w):∀fuel,fM0 P md ops Q S L fuel listed a w
 | 0=>⟨hr,h⟩
 | _+1=>⟨fun _=>h,by rw [hr];simp⟩
theorem eA0 {id:Nat} {a:Act} {w:World} (S:Nat→World→Prop) (L:Nat→Nat→Bool) (hm:P.follows .mixedOrders=true) (hS:∀n,S n w.drew) (h:(∀n,S n w.drew)→fM0 P .any ops Q S L ops.size (Array.replicate ops.size false) a w.drew):(Code.region id ops true).wp P Q a w:=
 wp_region_any hm (jI0 _ _ _ _ (h hS))
end
end Go.Proofs.YtaelphbianmckaaGreatDoor
