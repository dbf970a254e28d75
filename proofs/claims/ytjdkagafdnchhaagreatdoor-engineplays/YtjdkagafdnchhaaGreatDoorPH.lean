/- A part of the proof of EnginePlays. -/
import Derived.Test.YtjdkagafdnchhaaGreatDoorPF
import Derived.Test.YtjdkagafdnchhaaGreatDoorPG
import Derived.Test.YtjdkagafdnchhaaGreatDoorPA
import Derived.Test.YtjdkagafdnchhaaGreatDoorRows
import Derived.WalkKit
import Derived.WalkSpells
import Derived.WalkLawsBesides
import Derived.LaidEql
import Derived.Stop.Asserts
import Derived.RowKitTokens
import Derived.Lib.ReflectliteSlice
import Derived.Handy
import Derived.BigQuiet
import Derived.Deep.RegionLaw
import Derived.BigRegion
import Derived.Deep.DeepCutAuto
import Derived.Deep.Upon
namespace Go.Proofs.YtjdkagafdnchhaaGreatDoor
open Go.RowKit
structure Mkt where
 rs:List (Int×Int)
 st:Int
 dy:Int
 an:Int
 la:Int
 ti:Int
 mo:Int
 L:List Ord
 P:List Ord
 I:List Int
 ph:Int
 now:Int
 en:Int
 lo:Int
def jW0 (p:Int):Nat→FS→FS
 | 0,s=>s
 | n+1,s=>if s.q≤0 then s else jW0 p n (eD0 p s)
theorem eK0 (p:Int) (s:FS):∀k,aT0 p (eD0 p s) k=aT0 p s (k+1)
 | 0=>rfl
 | k+1=>by
  show eD0 p (aT0 p (eD0 p s) k)=eD0 p (aT0 p s (k+1));rw [eK0 p s k]
theorem uM0 {p:Int}:∀{K n:Nat} {s:FS},(aT0 p s K).q=0→(∀j,j<K→0<(aT0 p s j).q)→K≤n→jW0 p n s=aT0 p s K
 | 0,0,_,_,_,_=>rfl
 | 0,n+1,s,h,_,_=>by
  have h':s.q=0:=h;show (if s.q≤0 then s else _)=s;rw [if_pos (by omega)]
 | K+1,0,_,_,_,hn=>by omega
 | K+1,n+1,s,h,hj,hn=>by
  have h0:0<s.q:=hj 0 (by omega);show (if s.q≤0 then s else jW0 p n (eD0 p s))=_;rw [if_neg (by omega),uM0 (K:=K) (by rw [eK0];exact h) (fun j hjk=>by rw [eK0];exact hj (j+1) (by omega)) (by omega),eK0]
def hV0 (p q:Int) (L:List Ord):FS:=jW0 p (L.length+1) ⟨[],L,q⟩
theorem uN0 {p q:Int} {L:List Ord} {K:Nat} (h:FOk p ⟨[],L,q⟩) (h0:(aT0 p ⟨[],L,q⟩ K).q=0) (hj:∀j,j<K→0<(aT0 p ⟨[],L,q⟩ j).q):hV0 p q L=aT0 p ⟨[],L,q⟩ K:=by
 refine uM0 h0 hj ?_;cases K with
 | zero=>omega
 | succ K=>
  have:=hN0 h K hj;have e:(⟨[],L,q⟩:FS).L.length=L.length:=rfl;omega
def aH0 (m:Mkt):Quo:=aN0 (aR0 m.L m.la) m.la
def gQ0 (m:Mkt):Quo:=if eE0 m.ph=true then aH0 m else ⟨0,0,0⟩
def bW0 (la:Int):List Int→Int
 | []=>la
 | p::ts=>bW0 p ts
theorem mE0 (la:Int):∀(ts:List Int) (p:Int),bW0 la (ts++[p])=p
 | [],_=>rfl
 | x::ts,p=>mE0 x ts p
def alM (m:Mkt) (ts:List Int) (p:Int):Bool:=dM0 m.st m.dy m.an (bW0 m.la ts) p
def volM (m:Mkt):Mkt:={ m with ph:=4,en:=m.now+m.ti,lo:=0 }
def ordN (m:Mkt) (o:Ord):Int:=
 if (decide (1≤o.side)&& decide (o.side≤2))=false∨(decide (1≤o.kind)&& decide (o.kind≤4))=false∨o.id<1 then 1
 else if eW0 (lieO o).price o.qty=false then 2 else if dV0 m.ph o.kind=false then 6 else if o.id∈m.I then 9 else if 100≤m.L.length+m.P.length then 12 else 0
def bM0 (m:Mkt) (o:Ord):MS×Bool:=bS0 (alM m) o (aJ0 (3 - o.side) m.L) ⟨[],m.L,o.qty,[]⟩
def dW0 (m:Mkt) (o:Ord):List Fil×Mkt:=
 ((bM0 m o).1.fs,if (bM0 m o).2=true then volM { m with L:=if 0<(bM0 m o).1.q∧o.kind≠2 then addL (bJ0 o (bM0 m o).1.q) (bM0 m o).1.L else (bM0 m o).1.L,la:=bW0 m.la (bM0 m o).1.ts }
  else { m with L:=if 0<(bM0 m o).1.q∧o.kind≠2 then addL (bJ0 o (bM0 m o).1.q) (bM0 m o).1.L else (bM0 m o).1.L,la:=bW0 m.la (bM0 m o).1.ts })
def eO0 (m:Mkt) (o:Ord):List Fil×Mkt:=
 if o.kind=4∧m.ph≠5 then ([],{ m with P:=m.P++[o] }) else if m.ph≠3 then ([],{ m with L:=addL o m.L }) else dW0 m o
def ordM (m:Mkt) (o:Ord):List Fil×Mkt:=if ordN m o=0 then eO0 { m with I:=m.I++[o.id] } (lieO o) else ([],m)
def kF0 (m:Mkt) (id:Int):Int:=if m.ph=7 then 6 else if 0≤idxO id m.P then 0 else canN id m.L
def canM (m:Mkt) (id:Int):Mkt:=if m.ph=7 then m else if 0≤idxO id m.P then { m with P:=dI0 (idxO id m.P).toNat m.P } else { m with L:=canL id m.L }
def limL (L:List Ord):List Ord:=L.filter fun o=>o.kind == 1
def uncM (m:Mkt):List Fil×Mkt:=
 if 0<(aH0 m).qty then ((hV0 (aH0 m).price (aH0 m).qty m.L).fs,{ m with L:=limL (hV0 (aH0 m).price (aH0 m).qty m.L).L,an:=(aH0 m).price,la:=(aH0 m).price })
 else ([],{ m with L:=limL m.L })
def iG0 (m:Mkt):Mkt:={ m with ph:=5,L:=m.P.foldl (fun L o=>addL o L) m.L,P:=[] }
def mF0 (m:Mkt):Int:=if m.ph=7 then 6 else 0
def jT0 (was is:Int) (m:Mkt):List Fil×Mkt:=
 if is=7 then ((if m.ph=5 then (uncM m).1 else []),{ (if m.ph=5 then (uncM m).2 else m) with L:=[],P:=[],ph:=7 })
 else if m.ph=6 then ([],m)
 else if was≠is∧is=3 then ((uncM m).1,{ (uncM m).2 with ph:=is })
 else if was≠is∧is=5 then ([],iG0 m)
 else if was≠is then ([],{ m with ph:=is })
 else if m.ph=4∧m.en≤m.now then
  (if (aH0 m).qty=0∨dY0 m.st m.an (aH0 m).price=true then ((uncM m).1,{ (uncM m).2 with ph:=3 })
   else if m.lo<m.mo then ([],{ m with lo:=m.lo+1,en:=m.now+m.ti })
   else ([],{ m with ph:=6 }))
 else ([],m)
def cL0 (m:Mkt):List Fil×Mkt:=if m.ph=7 then ([],m) else jT0 (phaseV m.rs m.now).1 (phaseV m.rs (m.now+1)).1 { m with now:=m.now+1 }
def jU0 (m:Mkt):Int:=if m.ph=6∨m.ph=7 then 6 else 0
def gH0 (m:Mkt):Mkt:=if m.ph=6∨m.ph=7 then m else { m with ph:=6 }
def iZ0 (m:Mkt):Int:=if m.ph=6 then 0 else 6
def dZ0 (m:Mkt):Mkt:=if m.ph=6 then (if (phaseV m.rs m.now).1=3 then volM m else if (phaseV m.rs m.now).1=5 then iG0 m else { m with ph:=(phaseV m.rs m.now).1 }) else m
structure Spot where
 bb:Nat
 off:Nat
 ty:TypeId
 vs:Array Value
 F:Nat→Prop
structure BookIs (w:World) (base:Nat) (sp:Spot) (v:Value) (l:List Ord):Prop where
 lt:sp.off<sp.vs.size
 ty:sp.ty≠41∧sp.ty≠115
 box:w.heap[sp.bb]? = some (.cells (sp.vs.setIfInBounds sp.off v) sp.ty (0,0))
 all:w.ownsRow base 41 5 v l.length (oV l)
 lim:∀j,sp.F j→j<w.heap.size
 far:∀j,v.ownBlock=some j→¬sp.F j
section
variable {w w':World} {base B:Nat} {sp:Spot} {v v' u:Value} {l l':List Ord} {S:Nat→Prop}
theorem BookIs.cell (h:BookIs w base sp v l):w.cell? ⟨sp.bb,sp.off,none⟩=some v:=aA0 (j:=sp.off) h.box (by simp [h.lt])
theorem BookIs.free (h:BookIs w base sp v l):w.frozen? ⟨sp.bb,sp.off,none⟩=false:=aB0 (j:=sp.off) h.box
theorem BookIs.below (h:BookIs w base sp v l) (hb:Below B w w') (hB:w.heap.size≤B):BookIs w' base sp v l:=
 ⟨h.lt,h.ty,(hb.block sp.bb (Nat.lt_of_lt_of_le (lt_of_block h.box) hB)).trans h.box,cB0 h.all hb hB,fun j hj=>Nat.lt_of_lt_of_le (h.lim j hj) hb.size,h.far⟩
theorem BookIs.put (h:BookIs w base sp v l) (hn:w.ownsRow base 41 5 v' l'.length (oV l')) (hf:∀j,v'.ownBlock=some j→¬sp.F j):BookIs (w.setCell ⟨sp.bb,sp.off,none⟩ v') base sp v' l':=by
 refine ⟨h.lt,h.ty,?_,ownsRow_setCell_other hn (fun e=>aG0 hn h.box h.ty.1 e) _,fun j hj=>Nat.lt_of_lt_of_le (h.lim j hj) (by simp),hf⟩;have h1:=aK0 (j:=sp.off) v' h.box;rw [Array.setIfInBounds_setIfInBounds] at h1;exact h1
theorem sI0 (h:BookIs w base sp v l) (hb:Out S w w') (h1:¬S sp.bb) (h2:∀k,v.ownBlock=some k→¬S k):BookIs w' base sp v l:=⟨h.lt,h.ty,aE0 h.box hb h1,aI0 h.all hb h2,fun j hj=>Nat.lt_of_lt_of_le (h.lim j hj) hb.size,h.far⟩
end
def nV (l:List Int):List Value:=l.map (Value.int .i64)
def mkV (vt:Value) (m:Mkt) (vb vp vi:Value):Array Value:=#[vt,.int .i64 m.st,.int .i64 m.dy,.int .i64 m.an,.int .i64 m.la,.int .i64 m.ti,.int .i64 m.mo,vb,vp,vi,.int .i64 m.ph,.int .i64 m.now,.int .i64 m.en,.int .i64 m.lo]
structure MkIs (w:World) (F:Nat→Prop) (base mb bt ct:Nat) (m:Mkt) (vb vp vi:Value):Prop where
 box:w.heap[mb]? = some (.cells (mkV (.slice (some ⟨bt,0,none⟩) m.rs.length ct) m vb vp vi) 67 (0,0))
 tab:bK0 w bt 0 m.rs
 tne:bt≠mb
 bk:w.ownsRow base 41 5 vb m.L.length (oV m.L)
 pk:w.ownsRow base 41 5 vp m.P.length (oV m.P)
 ids:w.ownsRow base 3 1 vi m.I.length (nV m.I)
 lim:∀j,F j→j<w.heap.size
 farb:∀j,vb.ownBlock=some j→¬F j
 farp:∀j,vp.ownBlock=some j→¬F j
 fari:∀j,vi.ownBlock=some j→¬F j
def spM (F:Nat→Prop) (mb bt ct:Nat) (m:Mkt) (vb vp vi:Value):Spot:=⟨mb,7,67,mkV (.slice (some ⟨bt,0,none⟩) m.rs.length ct) m vb vp vi,F⟩
theorem eI0 {S:Nat→Prop} {w w':World} {b off:Nat} {rs:List (Int×Int)} (h:bK0 w b off rs) (ho:Out S w w') (hS:¬S b):bK0 w' b off rs:=fun j u hj=>by
 have h1:=h j u hj;have hlt:b<w.heap.size:=World.block_lt_of_cell? w _ h1;have e:=ho.block b hlt hS;rw [←h1];simp only [World.cell?,e]
section
variable {w w':World} {F:Nat→Prop} {base mb bt ct:Nat} {m m':Mkt} {vb vp vi v':Value} {L' P':List Ord} {S:Nat→Prop}
theorem MkIs.below (h:MkIs w F base mb bt ct m vb vp vi) (hb:Below w.heap.size w w'):MkIs w' F base mb bt ct m vb vp vi:=
 ⟨aC0 h.box hb lR7,h.tab.below hb lR7,h.tne,aO0 h.bk hb lR7,aO0 h.pk hb lR7,aO0 h.ids hb lR7,fun j hj=>Nat.lt_of_lt_of_le (h.lim j hj) hb.size,h.farb,h.farp,h.fari⟩
theorem MkIs.book (h:MkIs w F base mb bt ct m vb vp vi):BookIs w base (spM F mb bt ct m vb vp vi) vb m.L:=⟨by show 7<14;decide,⟨by show (67:TypeId)≠41;decide,by show (67:TypeId)≠115;decide⟩,h.box,h.bk,h.lim,h.farb⟩
theorem MkIs.ofBook (h:MkIs w F base mb bt ct m vb vp vi) (hb:BookIs w' base (spM F mb bt ct m vb vp vi) v' L') (ho:Out (fun j=>j=mb) w w'):MkIs w' F base mb bt ct { m with L:=L' } v' vp vi:=
 ⟨hb.box,eI0 h.tab ho h.tne,h.tne,hb.all,aI0 h.pk ho (fun k hk e=>aG0 h.pk h.box (by decide) (hk.trans (congrArg some e))),aI0 h.ids ho (fun k hk e=>aG0 h.ids h.box (by decide) (hk.trans (congrArg some e))),hb.lim,hb.far,h.farp,h.fari⟩
theorem MkIs.write (h:MkIs w F base mb bt ct m vb vp vi) {j:Nat} {u:Value} (he:(mkV (.slice (some ⟨bt,0,none⟩) m.rs.length ct) m vb vp vi).setIfInBounds j u=mkV (.slice (some ⟨bt,0,none⟩) m'.rs.length ct) m' vb vp vi) (h1:m'.rs=m.rs) (h2:m'.L=m.L) (h3:m'.P=m.P) (h4:m'.I=m.I):
  MkIs (w.setCell ⟨mb,j,none⟩ u) F base mb bt ct m' vb vp vi:=by
 have ho:=aQ0 w ⟨mb,j,none⟩ u;have hb:=aK0 (j:=j) u h.box;rw [he] at hb;refine ⟨hb,by rw [h1];exact eI0 h.tab ho h.tne,h.tne,?_,?_,?_,fun j hj=>Nat.lt_of_lt_of_le (h.lim j hj) ho.size,h.farb,h.farp,h.fari⟩
 ·rw [h2];exact aI0 h.bk ho (fun k hk e=>aG0 h.bk h.box (by decide) (hk.trans (congrArg some e)))
 ·rw [h3];exact aI0 h.pk ho (fun k hk e=>aG0 h.pk h.box (by decide) (hk.trans (congrArg some e)))
 ·rw [h4];exact aI0 h.ids ho (fun k hk e=>aG0 h.ids h.box (by decide) (hk.trans (congrArg some e)))
theorem MkIs.drew (h:MkIs w F base mb bt ct m vb vp vi):MkIs w.drew F base mb bt ct m vb vp vi:=h.below (Below.refl _ _).drew
end
end Go.Proofs.YtjdkagafdnchhaaGreatDoor
namespace Go.Proofs.YtjdkagafdnchhaaGreatDoor
open Go.RowKit Go.Extern.Stop Go.Stop Go.Extern
theorem Tryz.vP (t:Addr) (w:World):(ReflectliteValue.unpack (.iface 139 (.pointer (some t)))).run Tryz.prog w
  = .ok (.agg #[.pointer (some ⟨1,139,none⟩),.pointer (some ⟨w.heap.size,0,none⟩),.int .u64 150]) (w.alloc (.cells #[.pointer (some t)] 139)):=by kernel_rfl
theorem Tryz.tP (a:Addr) (w:World):(ReflectliteValue.methodAny (ReflectliteValue.valueError "reflectlite.Value.Type" 0) (fun t _ _ _=>ReflectliteType.toType t) #[.agg #[.pointer (some ⟨1,139,none⟩),.pointer (some a),.int .u64 150]]).run Tryz.prog w
  = .ok (.iface 249 (.agg #[.pointer (some ⟨1,139,none⟩)])) w:=by kernel_rfl
theorem Tryz.mKind (h:Value) (w:World):(Go.method 422 249 (.agg #[h]) "Kind").run Tryz.prog w=.ok (237,h) w:=by kernel_rfl
theorem Tryz.kP (w:World):((ReflectliteType.abiMethod fun t=>(fun a:Nat=>Value.int IntKind.u8 (a:Int)) <$> Rtype.kind t) #[.pointer (some ⟨1,139,none⟩)]).run Tryz.prog w=.ok (.int .u8 22) w:=by kernel_rfl
theorem Tryz.kE (w:World):((ReflectliteType.abiMethod fun t=>(fun a:Nat=>Value.int IntKind.u8 (a:Int)) <$> Rtype.kind t) #[.pointer (some ⟨1,32,none⟩)]).run Tryz.prog w=.ok (.int .u8 2) w:=by kernel_rfl
theorem Tryz.partsP (a:Addr) (w:World):(ReflectliteValue.parts (.agg #[.pointer (some ⟨1,139,none⟩),.pointer (some a),.int .u64 150])).run Tryz.prog w=.ok (some (139,a,150)) w:=by kernel_rfl
theorem Tryz.isNilP (a p:Addr) (W:World) (ha:W.cell? a=some (.pointer (some p))):
  (ReflectliteValue.method (ReflectliteValue.valueError "reflectlite.Value.IsNil" 0) ReflectliteValue.isNil #[.agg #[.pointer (some ⟨1,139,none⟩),.pointer (some a),.int .u64 150]]).run Tryz.prog W=.ok (.bool false) W:=by
 rw [Lib.rl_method];simp only [Sem.run_bind,Tryz.partsP,Result.andThen];simp [ReflectliteValue.isNil,loadVar,isAgg,underlying,Tryz.underlying139,ha,Result.andThen]
theorem Tryz.mElem (h:Value) (w:World):(Go.method 422 249 (.agg #[h]) "Elem").run Tryz.prog w=.ok (249,.agg #[h]) w:=by kernel_rfl
theorem Tryz.mImplements (h:Value) (w:World):(Go.method 422 249 (.agg #[h]) "Implements").run Tryz.prog w=.ok (250,.agg #[h]) w:=by kernel_rfl
theorem Tryz.mAssignableTo (h:Value) (w:World):(Go.method 422 249 (.agg #[h]) "AssignableTo").run Tryz.prog w=.ok (247,.agg #[h]) w:=by kernel_rfl
theorem Tryz.elemP (w:World):(ReflectliteType.method ReflectliteType.elem #[.agg #[.pointer (some ⟨1,139,none⟩)]]).run Tryz.prog w=.ok (.iface 249 (.agg #[.pointer (some ⟨1,32,none⟩)])) w:=by kernel_rfl
theorem Tryz.implementsE (w:World):(ReflectliteType.relation "Implements" ReflectliteType.implements_ #[.agg #[.pointer (some ⟨1,32,none⟩)],.iface 249 (.agg #[.pointer (some ⟨1,28,none⟩)])]).run Tryz.prog w=.ok (.bool true) w:=by kernel_rfl
theorem Tryz.typeOfE (v:Value) (w:World):(ReflectliteType.typeOf #[.iface 32 v]).run Tryz.prog w=.ok (.iface 249 (.agg #[.pointer (some ⟨1,32,none⟩)])) w:=by kernel_rfl
theorem Tryz.assignableE (w:World):(ReflectliteType.relation "AssignableTo" ReflectliteType.assignableTo #[.agg #[.pointer (some ⟨1,32,none⟩)],.iface 249 (.agg #[.pointer (some ⟨1,32,none⟩)])]).run Tryz.prog w=.ok (.bool true) w:=by kernel_rfl
theorem Tryz.valueOfE (n:Int) (w:World):(ReflectliteValue.unpack (.iface 32 (.int .i64 n))).run Tryz.prog w
  = .ok (.agg #[.pointer (some ⟨1,32,none⟩),.pointer (some ⟨w.heap.size,0,none⟩),.int .u64 130]) (w.alloc (.cells #[.int .i64 n] 32)):=by kernel_rfl
theorem Tryz.elemOfP (w:World):(Rtype.elem? 139).run Tryz.prog w=.ok (some 32) w:=by kernel_rfl
theorem Tryz.mkE (p:Addr) (w:World):(ReflectliteValue.mk 32 p ReflectliteValue.flagAddr).run Tryz.prog w=.ok (.agg #[.pointer (some ⟨1,32,none⟩),.pointer (some p),.int .u64 386]) w:=by kernel_rfl
theorem Tryz.elemVP (a p:Addr) (W:World) (ha:W.cell? a=some (.pointer (some p))):
  (ReflectliteValue.method (ReflectliteValue.valueError "reflectlite.Value.Elem" 0) ReflectliteValue.elem #[.agg #[.pointer (some ⟨1,139,none⟩),.pointer (some a),.int .u64 150]]).run Tryz.prog W
   = .ok (.agg #[.pointer (some ⟨1,32,none⟩),.pointer (some p),.int .u64 386]) W:=by
 rw [Lib.rl_method];simp only [Sem.run_bind,Tryz.partsP,Result.andThen];simp [ReflectliteValue.elem,loadVar,isAgg,underlying,Tryz.underlying139,ha,Result.andThen,Tryz.elemOfP,Tryz.mkE]
theorem Tryz.partsEa (a:Addr) (w:World):(ReflectliteValue.parts (.agg #[.pointer (some ⟨1,32,none⟩),.pointer (some a),.int .u64 386])).run Tryz.prog w=.ok (some (32,a,386)) w:=by kernel_rfl
theorem Tryz.partsE (a:Addr) (w:World):(ReflectliteValue.parts (.agg #[.pointer (some ⟨1,32,none⟩),.pointer (some a),.int .u64 130])).run Tryz.prog w=.ok (some (32,a,130)) w:=by kernel_rfl
theorem Tryz.directE (w:World):(Rtype.directlyAssignable 32 32).run Tryz.prog w=.ok true w:=by kernel_rfl
theorem oM1 {motive:Array Value→Sort _} (v x:Value) (f:(v x:Value)→motive #[v,x]) (g:(a:Array Value)→motive a):
  ReflectliteValue.set.match_3 motive #[v,x] f g=f v x:=rfl
theorem Tryz.setE (ta b:Addr) (n:Int) (old:Value) (W:World) (hb:W.cell? b=some (.int .i64 n)) (ht:W.cell? ta=some old) (hf:W.frozen? ta=false):
  (ReflectliteValue.set #[.agg #[.pointer (some ⟨1,32,none⟩),.pointer (some ta),.int .u64 386],.agg #[.pointer (some ⟨1,32,none⟩),.pointer (some b),.int .u64 130]]).run Tryz.prog W
   = .ok (.tuple #[]) (W.setCell ta (.int .i64 n)):=by
 delta ReflectliteValue.set
 rw [oM1];simp only [Sem.run_bind,Tryz.partsEa,Tryz.partsE,Result.andThen];simp [ReflectliteValue.flagAddr,loadVar,isAgg,underlying,Tryz.underlying32,hb,Result.andThen,Tryz.directE,storeVar,Value.cells,storeCells,Addr.add];rw [run_store Tryz.prog W ta _ _ (by rfl)];simp [ht,hf]
def ErrT (w:World):Prop:=w.cell? ⟨0,0,none⟩=some (.iface 249 (.agg #[.pointer (some ⟨1,28,none⟩)]))
theorem ErrT.lt {w:World} (hg:ErrT w):0<w.heap.size:=by
 rcases Nat.lt_or_ge 0 w.heap.size with h | h
 ·exact h
 ·simp [ErrT,World.cell?,Array.getElem?_eq_none h] at hg
theorem ErrT.below {w w':World} (hg:ErrT w) (hb:Below w.heap.size w w'):ErrT w':=(hb.cell (p:=⟨0,0,none⟩) hg.lt).trans hg
theorem Tryz.typeOfA (v:Value) (w:World):(ReflectliteType.typeOf #[.iface 140 v]).run Tryz.prog w=.ok (.iface 249 (.agg #[.pointer (some ⟨1,140,none⟩)])) w:=by kernel_rfl
theorem Tryz.assignableA (w:World):(ReflectliteType.relation "AssignableTo" ReflectliteType.assignableTo #[.agg #[.pointer (some ⟨1,140,none⟩)],.iface 249 (.agg #[.pointer (some ⟨1,32,none⟩)])]).run Tryz.prog w=.ok (.bool false) w:=by kernel_rfl
theorem Tryz.noAsA (v:Value) (xT:TypeId) (w:World):(Instr.typeAssert (.iface 140 v) xT 256 true).run Tryz.prog w=.ok (.tuple #[.nilIface,.bool false]) w:=run_typeAssert_lacksB Tryz.underlying256 (by kernel_rfl) (by kernel_rfl) v xT w
theorem Tryz.unwrapA (v:Value) (xT:TypeId) (w:World):(Instr.typeAssert (.iface 140 v) xT 159 true).run Tryz.prog w=.ok (.tuple #[.iface 140 v,.bool true]) w:=run_typeAssert_hasB Tryz.underlying159 (by kernel_rfl) v xT w
theorem Tryz.noUnwrapE (v:Value) (xT:TypeId) (w:World):(Instr.typeAssert (.iface 32 v) xT 159 true).run Tryz.prog w=.ok (.tuple #[.nilIface,.bool false]) w:=run_typeAssert_lacksB Tryz.underlying159 (by kernel_rfl) (by kernel_rfl) v xT w
theorem Tryz.toAtE (v:Value) (w:World):(Instr.typeAssert (.iface 32 v) 28 140 true).run Tryz.prog w=.ok (.tuple #[.pointer none,.bool false]) w:=by kernel_rfl
theorem Tryz.toAtA (v:Value) (w:World):(Instr.typeAssert (.iface 140 v) 28 140 true).run Tryz.prog w=.ok (.tuple #[v,.bool true]) w:=by kernel_rfl
theorem dT0 {w:World} (o:Obj) {a:Addr} (h:a.block<w.heap.size):(w.alloc o).cell? a=w.cell? a:=World.cell?_alloc_lt _ _ a h
theorem nJ0 {w:World} (o:Obj) {a:Addr} (h:a.block<w.heap.size):(w.alloc o).frozen? a=w.frozen? a:=World.frozen?_alloc_old _ _ a (Nat.ne_of_lt h)
theorem bN0 {w:World} {a:Addr} {v:Value} (h:w.cell? a=some v):a.block<w.heap.size:=by
 rcases Nat.lt_or_ge a.block w.heap.size with h' | h'
 ·exact h'
 ·simp [World.cell?,Array.getElem?_eq_none h'] at h
set_option maxHeartbeats 4000000 in
theorem jQ1 (n:Int) (t a:Addr) (old:Value) (w:World) (ha:w.cell? a=some (.pointer (some t))) (ht0:w.cell? t=some old) (hf0:w.frozen? t=false):
  Calls Tryz.prog 137 #[.iface 32 (.int .i64 n),.iface 139 (.pointer (some t)),.agg #[.pointer (some ⟨1,139,none⟩),.pointer (some a),.int .u64 150],.iface 249 (.agg #[.pointer (some ⟨1,32,none⟩)])] w fun ev w'=>ev=.returned (.bool true)
   ∧w'=((w.alloc (.cells #[.pointer (some ⟨1,139,none⟩),.pointer (some a),.int .u64 150] 201)).alloc (.cells #[.int .i64 n] 32)).setCell t (.int .i64 n):=by
 have hal:=bN0 ha;have htl:=bN0 ht0;have h6:=@run_callFunc_extern Tryz.prog 129 _ (fun args=>ReflectliteValue.unpack (args.getD 0 (.tuple #[]))) Tryz.func129 (by kernel_rfl) (by kernel_rfl) (by kernel_rfl) (by kernel_rfl);have h10:=@run_callFunc_extern Tryz.prog 179 _ ReflectliteType.typeOf Tryz.func179 (by kernel_rfl) (by kernel_rfl) (by kernel_rfl) (by kernel_rfl);have h35:=@run_callFunc_extern Tryz.prog 247 _ (ReflectliteType.relation "AssignableTo" ReflectliteType.assignableTo) Tryz.func247 (by kernel_rfl) (by kernel_rfl) (by kernel_rfl) (by kernel_rfl);have h11:=@run_callFunc_extern Tryz.prog 180 _ (ReflectliteValue.method (ReflectliteValue.valueError "reflectlite.Value.Elem" 0) ReflectliteValue.elem) Tryz.func180 (by kernel_rfl) (by kernel_rfl) (by kernel_rfl) (by kernel_rfl);have h12:=@run_callFunc_extern Tryz.prog 181 _ ReflectliteValue.set Tryz.func181 (by kernel_rfl) (by kernel_rfl) (by kernel_rfl) (by kernel_rfl);have tO:=Tryz.typeOfE;have mA:=Tryz.mAssignableTo;have aE:=Tryz.assignableE;have vE:=Tryz.valueOfE;have el:=Tryz.elemVP a t (w.alloc (.cells #[.pointer (some ⟨1,139,none⟩),.pointer (some a),.int .u64 150] 201)) (by rw [dT0 _ hal];exact ha)
 have st:=Tryz.setE t ⟨w.heap.size+1,0,none⟩ n old ((w.alloc (.cells #[.pointer (some ⟨1,139,none⟩),.pointer (some a),.int .u64 150] 201)).alloc (.cells #[.int .i64 n] 32))
  (by rw [World.cell?_alloc_at _ _ _ _ (by simp)];rfl)
  (by rw [dT0 _ (by simp;omega),dT0 _ htl];exact ht0)
  (by rw [nJ0 _ (by simp;omega),nJ0 _ htl];exact hf0)
 go_enter Tryz.func137,Tryz.ntmps137;go_wp2;refine wp_loop_rounds 1 ?_;rw [rounds_succ];go_wp2;go_ret;exact ⟨rfl,rfl⟩
set_option maxHeartbeats 4000000 in
theorem tI1 (n:Int) (b o:Nat) (t a:Addr) (old:Value) (w:World) (hn:w.cell? ⟨b,o,none⟩=some (.int .i64 n)) (ha:w.cell? a=some (.pointer (some t))) (ht0:w.cell? t=some old) (hf0:w.frozen? t=false):
  Calls Tryz.prog 137 #[.iface 140 (.pointer (some ⟨b,o,none⟩)),.iface 139 (.pointer (some t)),.agg #[.pointer (some ⟨1,139,none⟩),.pointer (some a),.int .u64 150],.iface 249 (.agg #[.pointer (some ⟨1,32,none⟩)])] w fun ev w'=>ev=.returned (.bool true)
   ∧w'=((w.alloc (.cells #[.pointer (some ⟨1,139,none⟩),.pointer (some a),.int .u64 150] 201)).alloc (.cells #[.int .i64 n] 32)).setCell t (.int .i64 n):=by
 have hal:=bN0 ha;have htl:=bN0 ht0;have hbl:=bN0 hn;have h6:=@run_callFunc_extern Tryz.prog 129 _ (fun args=>ReflectliteValue.unpack (args.getD 0 (.tuple #[]))) Tryz.func129 (by kernel_rfl) (by kernel_rfl) (by kernel_rfl) (by kernel_rfl);have h10:=@run_callFunc_extern Tryz.prog 179 _ ReflectliteType.typeOf Tryz.func179 (by kernel_rfl) (by kernel_rfl) (by kernel_rfl) (by kernel_rfl);have h35:=@run_callFunc_extern Tryz.prog 247 _ (ReflectliteType.relation "AssignableTo" ReflectliteType.assignableTo) Tryz.func247 (by kernel_rfl) (by kernel_rfl) (by kernel_rfl) (by kernel_rfl);have h11:=@run_callFunc_extern Tryz.prog 180 _ (ReflectliteValue.method (ReflectliteValue.valueError "reflectlite.Value.Elem" 0) ReflectliteValue.elem) Tryz.func180 (by kernel_rfl) (by kernel_rfl) (by kernel_rfl) (by kernel_rfl);have h12:=@run_callFunc_extern Tryz.prog 181 _ ReflectliteValue.set Tryz.func181 (by kernel_rfl) (by kernel_rfl) (by kernel_rfl) (by kernel_rfl);have tO:=Tryz.typeOfE;have tA:=Tryz.typeOfA;have mA:=Tryz.mAssignableTo;have aE:=Tryz.assignableE;have aA:=Tryz.assignableA;have nA:=Tryz.noAsA;have uA:=Tryz.unwrapA;have vE:=Tryz.valueOfE;have hn2:(w.alloc (.cells #[.pointer (some ⟨1,139,none⟩),.pointer (some a),.int .u64 150] 201)).cell? ⟨b,o,none⟩=some (.int .i64 n):=by rw [dT0 _ hbl];exact hn
 have el:=Tryz.elemVP a t (w.alloc (.cells #[.pointer (some ⟨1,139,none⟩),.pointer (some a),.int .u64 150] 201)) (by rw [dT0 _ hal];exact ha)
 have st:=Tryz.setE t ⟨w.heap.size+1,0,none⟩ n old ((w.alloc (.cells #[.pointer (some ⟨1,139,none⟩),.pointer (some a),.int .u64 150] 201)).alloc (.cells #[.int .i64 n] 32))
  (by rw [World.cell?_alloc_at _ _ _ _ (by simp)];rfl)
  (by rw [dT0 _ (by simp;omega),dT0 _ htl];exact ht0)
  (by rw [nJ0 _ (by simp;omega),nJ0 _ htl];exact hf0)
 go_enter Tryz.func137,Tryz.ntmps137;go_wp2;refine wp_loop_rounds 2 ?_;rw [rounds_succ];go_wp2;rw [rounds_succ];go_wp2;go_ret;exact ⟨rfl,rfl⟩
set_option maxHeartbeats 4000000 in
theorem rH1 (te:TypeId) (ve:Value) (t:Addr) (w:World) (hg:ErrT w) (Q:Ending→World→Prop)
  (h:∀W:World,Below w.heap.size w W→W.cell? ⟨w.heap.size,0,none⟩=some (.pointer (some t))→
   Calls Tryz.prog 137 #[.iface te ve,.iface 139 (.pointer (some t)),.agg #[.pointer (some ⟨1,139,none⟩),.pointer (some ⟨w.heap.size,0,none⟩),.int .u64 150],.iface 249 (.agg #[.pointer (some ⟨1,32,none⟩)])] W
    fun e w'=>(∃r,e=.returned (.bool r))∧Q e w'):
  Calls Tryz.prog 82 #[.iface te ve,.iface 139 (.pointer (some t))] w Q:=by
 have hlt:=hg.lt;have h6:=@run_callFunc_extern Tryz.prog 129 _ (fun args=>ReflectliteValue.unpack (args.getD 0 (.tuple #[]))) Tryz.func129 (by kernel_rfl) (by kernel_rfl) (by kernel_rfl) (by kernel_rfl);have h7:=@run_callFunc_extern Tryz.prog 135 _ (ReflectliteValue.methodAny (ReflectliteValue.valueError "reflectlite.Value.Type" 0) (fun t _ _ _=>ReflectliteType.toType t)) Tryz.func135 (by kernel_rfl) (by kernel_rfl) (by kernel_rfl) (by kernel_rfl);have h8:=@run_callFunc_extern Tryz.prog 136 _ (ReflectliteValue.method (ReflectliteValue.valueError "reflectlite.Value.IsNil" 0) ReflectliteValue.isNil) Tryz.func136 (by kernel_rfl) (by kernel_rfl) (by kernel_rfl) (by kernel_rfl);have h27:=@run_callFunc_extern Tryz.prog 237 _ (ReflectliteType.abiMethod fun t=>do pure (.int .u8 (←Rtype.kind t))) Tryz.func237 (by kernel_rfl) (by kernel_rfl) (by kernel_rfl) (by kernel_rfl);have h37:=@run_callFunc_extern Tryz.prog 249 _ (ReflectliteType.method ReflectliteType.elem) Tryz.func249 (by kernel_rfl) (by kernel_rfl) (by kernel_rfl) (by kernel_rfl);have h38:=@run_callFunc_extern Tryz.prog 250 _ (ReflectliteType.relation "Implements" ReflectliteType.implements_) Tryz.func250 (by kernel_rfl) (by kernel_rfl) (by kernel_rfl) (by kernel_rfl);have f6:=Tryz.vP;have f7:=Tryz.tP;have mK:=Tryz.mKind;have mE:=Tryz.mElem;have mI:=Tryz.mImplements;have k27:=Tryz.kP;have k25:=Tryz.kE;have e27:=Tryz.elemP;have i25:=Tryz.implementsE;have n8:=Tryz.isNilP ⟨w.heap.size,0,none⟩ t ((w.alloc (.cells #[.pointer (some t)] 139)).alloc (.cells #[.pointer (some ⟨1,139,none⟩),.pointer (some ⟨w.heap.size,0,none⟩),.int .u64 150] 201)) (by simp)
 have hg2:((w.alloc (.cells #[.pointer (some t)] 139)).alloc (.cells #[.pointer (some ⟨1,139,none⟩),.pointer (some ⟨w.heap.size,0,none⟩),.int .u64 150] 201)).cell? ⟨0,0,none⟩=some (.iface 249 (.agg #[.pointer (some ⟨1,28,none⟩)])):=by
  rw [dT0 _ (by simp <;> omega),dT0 _ hlt];exact hg
 have H:Hid (∀W:World,Below w.heap.size w W→W.cell? ⟨w.heap.size,0,none⟩=some (.pointer (some t))→
   Calls Tryz.prog 137 #[.iface te ve,.iface 139 (.pointer (some t)),.agg #[.pointer (some ⟨1,139,none⟩),.pointer (some ⟨w.heap.size,0,none⟩),.int .u64 150],.iface 249 (.agg #[.pointer (some ⟨1,32,none⟩)])] W
    fun e w'=>(∃r,e=.returned (.bool r))∧Q e w'):=h
 clear h;go_enter Tryz.func82,Tryz.ntmps82;go_wp2_with fail;refine (H.out _ ?_ ?_).mono ?_
 ·exact ((Below.refl _ _).alloc lR7 _).alloc (by simp) _
 ·rw [dT0 _ (by simp)];exact World.cell?_alloc_at _ _ _ _ rfl
 ·rintro e w' ⟨⟨r,rfl⟩,hq⟩;go_wp2_with fail;exact hq
def kG0 (w:World) (err:Value) (n k:Int):Prop:=
 (err=.nilIface∧n=0∧k=-1)∨(err=.iface 32 (.int .i64 n)∧k=-1)
  ∨(∃b o:Nat,err=.iface 140 (.pointer (some ⟨b,o,none⟩))∧w.cell? ⟨b,o,none⟩=some (.int .i64 n)∧w.cell? ⟨b,o+1,none⟩=some (.int .i64 k))
theorem kG0.below {w w':World} {err:Value} {n k:Int} (h:kG0 w err n k) (hb:Below w.heap.size w w'):kG0 w' err n k:=by
 rcases h with h | h | ⟨b,o,h1,h2,h3⟩
 ·exact Or.inl h
 ·exact Or.inr (Or.inl h)
 ·exact Or.inr (Or.inr ⟨b,o,h1,(hb.cell (p:=⟨b,o,none⟩) (bN0 (a:=⟨b,o,none⟩) h2)).trans h2,(hb.cell (p:=⟨b,o+1,none⟩) (bN0 (a:=⟨b,o,none⟩) h2)).trans h3⟩)
theorem zO0 {w W w':World} {t:Addr} {n:Int} {o1 o2:Obj} {old:Value} (hb:Below w.heap.size w W) (ht:W.cell? t=some old) (hw:w'=((W.alloc o1).alloc o2).setCell t (.int .i64 n)) (B:Nat) (hBt:B≤t.block) (hBw:B≤w.heap.size):
  w'.cell? t=some (.int .i64 n)∧Below B w w':=by
 have htl:=bN0 ht;have hs:=hb.size;subst hw;refine ⟨World.cell?_setCell_same' _ _ _ ?_,?_⟩
 ·rw [dT0 _ (by simp;omega),dT0 _ htl,ht];rfl
 ·exact (((hb.mono hBw).alloc (by omega) _).alloc (by simp;omega) _).setCell hBt _
set_option maxHeartbeats 400000 in
theorem jR1 (w:World):Calls Tryz.prog 33 #[.nilIface] w fun e w'=>e=.returned (.int .i64 0)∧w'=w:=by
 go_enter Tryz.func33,Tryz.ntmps33;go_wp2;go_ret;exact ⟨rfl,rfl⟩
theorem jS1 (n:Int) (t:Addr) (w:World) (hg:ErrT w) (ht:w.cell? t=some (.int .i64 0)) (hf:w.frozen? t=false):
  Calls Tryz.prog 82 #[.iface 32 (.int .i64 n),.iface 139 (.pointer (some t))] w fun e w'=>e=.returned (.bool true)∧w'.cell? t=some (.int .i64 n)∧Below t.block w w':=
 rH1 _ _ t w hg _ fun W hb ha=>(jQ1 n t _ (.int .i64 0) W ha ((hb.cell (bN0 ht)).trans ht) ((hb.frozen (bN0 ht)).trans hf)).mono fun _ _ ⟨he,hw⟩=>
  have h:=zO0 hb ((hb.cell (bN0 ht)).trans ht) hw t.block lR7 (Nat.le_of_lt (bN0 ht))
  ⟨⟨_,he⟩,he,h.1,h.2⟩
theorem tJ1 (n:Int) (b o:Nat) (t:Addr) (w:World) (hg:ErrT w) (hn:w.cell? ⟨b,o,none⟩=some (.int .i64 n)) (ht:w.cell? t=some (.int .i64 0)) (hf:w.frozen? t=false):
  Calls Tryz.prog 82 #[.iface 140 (.pointer (some ⟨b,o,none⟩)),.iface 139 (.pointer (some t))] w fun e w'=>e=.returned (.bool true)∧w'.cell? t=some (.int .i64 n)∧Below t.block w w':=
 rH1 _ _ t w hg _ fun W hb ha=>(tI1 n b o t _ (.int .i64 0) W ((hb.cell (p:=⟨b,o,none⟩) (bN0 (a:=⟨b,o,none⟩) hn)).trans hn) ha ((hb.cell (bN0 ht)).trans ht) ((hb.frozen (bN0 ht)).trans hf)).mono fun _ _ ⟨he,hw⟩=>
  have h:=zO0 hb ((hb.cell (bN0 ht)).trans ht) hw t.block lR7 (Nat.le_of_lt (bN0 ht))
  ⟨⟨_,he⟩,he,h.1,h.2⟩
set_option maxHeartbeats 400000 in
theorem bP1 (n:Int) (w:World) (hg:ErrT w):Calls Tryz.prog 33 #[.iface 32 (.int .i64 n)] w fun e w'=>e=.returned (.int .i64 n)∧Below w.heap.size w w':=by
 have hg1:ErrT (w.alloc (.cells #[.int .i64 0] 32)):=hg.below ((Below.refl _ _).alloc lR7 _);go_enter Tryz.func33,Tryz.ntmps33;go_wp2_with fail;refine (jS1 n ⟨w.heap.size,0,none⟩ _ hg1 (by simp) (by simp)).mono ?_;rintro e w1 ⟨rfl,hc,hb⟩;go_wp2;go_ret;exact ⟨rfl,((Below.refl _ _).alloc lR7 _).trans hb⟩
set_option maxHeartbeats 400000 in
theorem oN1 (n:Int) (b o:Nat) (w:World) (hg:ErrT w) (hn:w.cell? ⟨b,o,none⟩=some (.int .i64 n)):Calls Tryz.prog 33 #[.iface 140 (.pointer (some ⟨b,o,none⟩))] w fun e w'=>e=.returned (.int .i64 n)∧Below w.heap.size w w':=by
 have hg1:ErrT (w.alloc (.cells #[.int .i64 0] 32)):=hg.below ((Below.refl _ _).alloc lR7 _);have hn1:Hid ((w.alloc (.cells #[.int .i64 0] 32)).cell? ⟨b,o,none⟩=some (.int .i64 n)):=(dT0 (a:=⟨b,o,none⟩) _ (bN0 (a:=⟨b,o,none⟩) hn)).trans hn;go_enter Tryz.func33,Tryz.ntmps33;go_wp2_with fail;refine (tJ1 n b o ⟨w.heap.size,0,none⟩ _ hg1 hn1.out (by simp) (by simp)).mono ?_;rintro e w1 ⟨rfl,hc,hb⟩;go_wp2;go_ret;exact ⟨rfl,((Below.refl _ _).alloc lR7 _).trans hb⟩
set_option maxHeartbeats 400000 in
theorem eM1 (w:World):Calls Tryz.prog 41 #[.nilIface] w fun e w'=>e=.returned (.tuple #[.int .i64 0,.int .i64 (-1)])∧w'=w:=by
 go_enter Tryz.func41,Tryz.ntmps41;go_wp2_with fail;refine (jR1 _).mono ?_;rintro e w1 ⟨rfl,rfl⟩;go_wp2_with fail;refine wp_loop_rounds 1 ?_;rw [rounds_succ];go_wp2;go_ret2;exact ⟨rfl,rfl⟩
set_option maxHeartbeats 400000 in
theorem wY0 (n:Int) (w:World) (hg:ErrT w):Calls Tryz.prog 41 #[.iface 32 (.int .i64 n)] w fun e w'=>e=.returned (.tuple #[.int .i64 n,.int .i64 (-1)])∧Below w.heap.size w w':=by
 have nU:=Tryz.noUnwrapE;have tA:=Tryz.toAtE;go_enter Tryz.func41,Tryz.ntmps41;go_wp2_with fail;refine (bP1 n _ hg).mono ?_;rintro e w1 ⟨rfl,hb⟩;go_wp2_with fail;refine wp_loop_rounds 1 ?_;rw [rounds_succ];go_wp2;go_ret2;exact ⟨rfl,hb⟩
set_option maxHeartbeats 400000 in
theorem jT1 (n k:Int) (b o:Nat) (w:World) (hg:ErrT w) (hn:w.cell? ⟨b,o,none⟩=some (.int .i64 n)) (hk:w.cell? ⟨b,o+1,none⟩=some (.int .i64 k)):Calls Tryz.prog 41 #[.iface 140 (.pointer (some ⟨b,o,none⟩))] w fun e w'=>e=.returned (.tuple #[.int .i64 n,.int .i64 k])∧Below w.heap.size w w':=by
 go_enter Tryz.func41,Tryz.ntmps41;go_wp2_with fail;refine (oN1 n b o _ hg hn).mono ?_;have tA:=Tryz.toAtA;rintro e w1 ⟨rfl,hb⟩;have hk1:w1.cell? ⟨b,o+1,none⟩=some (.int .i64 k):=(hb.cell (p:=⟨b,o+1,none⟩) (bN0 (a:=⟨b,o,none⟩) hn)).trans hk;go_wp2_with fail;refine wp_loop_rounds 1 ?_;rw [rounds_succ];go_wp2;go_quiet (fail);go_wp2;go_ret2;exact ⟨rfl,below_drewN hb _⟩
theorem eN1 (err:Value) (n k:Int) (w:World) (hg:ErrT w) (h:kG0 w err n k):Calls Tryz.prog 41 #[err] w fun e w'=>e=.returned (.tuple #[.int .i64 n,.int .i64 k])∧Below w.heap.size w w':=by
 rcases h with ⟨rfl,rfl,rfl⟩ | ⟨rfl,rfl⟩ | ⟨b,o,rfl,h1,h2⟩
 ·exact (eM1 w).mono fun _ _ ⟨he,hw⟩=>⟨he,by subst hw;exact Below.refl _ _⟩
 ·exact wY0 n w hg
 ·exact jT1 n k b o w hg h1 h2
set_option maxHeartbeats 400000 in
theorem eO1 (err:Value) (n k:Int) (w:World) (hg:ErrT w) (h:kG0 w err n k):
  Calls Tryz.prog 8 #[err,.agg #[.int .i64 n,.int .i64 k]] w fun e w'=>e=.returned (.bool true)∧Below w.heap.size w w':=by
 have hb0:Below w.heap.size w (w.alloc (.cells #[.int .i64 n,.int .i64 k] 34)):=(Below.refl _ _).alloc lR7 _;have HG:Hid (ErrT (w.alloc (.cells #[.int .i64 n,.int .i64 k] 34))):=hg.below hb0;have HE:Hid (kG0 (w.alloc (.cells #[.int .i64 n,.int .i64 k] 34)) err n k):=h.below hb0;clear hb0;go_enter Tryz.func8,Tryz.ntmps8;go_wp2_with fail;refine (eN1 err n k _ HG.out HE.out).mono ?_;rintro e w1 ⟨rfl,hb⟩;have hc0:w1.cell? ⟨w.heap.size,0,none⟩=some (.int .i64 n):=(hb.cell (p:=⟨w.heap.size,0,none⟩) (by simp)).trans (World.cell?_alloc_at _ _ _ _ rfl);have hc1:w1.cell? ⟨w.heap.size,1,none⟩=some (.int .i64 k):=(hb.cell (p:=⟨w.heap.size,1,none⟩) (by simp)).trans (World.cell?_alloc_at _ _ _ _ rfl);go_wp2;go_ret;exact ⟨rfl,((Below.refl _ _).alloc lR7 _).trans (hb.mono (by simp))⟩
set_option maxHeartbeats 400000 in
theorem fQ0 (n:Int) (w:World):
  Calls Tryz.prog 40 #[.int .i64 n] w fun e w'=>e=.returned (.agg #[.int .i64 n,.int .i64 (-1)])∧Below w.heap.size w w':=by
 go_enter Tryz.func40,Tryz.ntmps40;go_wp2;go_returns;exact ⟨rfl,by go_grown⟩
set_option maxHeartbeats 400000 in
theorem kZ0 (err:Value) (n:Int) (w:World) (hg:ErrT w) (h:kG0 w err n (-1)):
  Calls Tryz.prog 11 #[err,.int .i64 n] w fun e w'=>e=.returned (.bool true)∧Below w.heap.size w w':=by
 have HE:Hid (kG0 w err n (-1)):=h;clear h;go_enter Tryz.func11,Tryz.ntmps11;go_wp2_with fail;refine (fQ0 n _).mono ?_;rintro e w1 ⟨rfl,hb⟩;go_wp2_with fail;refine (eO1 err n (-1) _ (hg.below hb) (HE.out.below hb)).mono ?_;rintro e w2 ⟨rfl,hb2⟩;go_wp2;go_ret;exact ⟨rfl,hb.trans (hb2.mono hb.size)⟩
end Go.Proofs.YtjdkagafdnchhaaGreatDoor
namespace Go.Proofs.YtjdkagafdnchhaaGreatDoor
open Go.RowKit
set_option maxHeartbeats 400000 in
theorem oX0 (n lo hi:Int) (w:World):
  Calls Tryz.prog 39 #[.int .i64 n,.int .i64 lo,.int .i64 hi] w fun e w'=>e=.returned (.bool (inB lo hi n))∧w'=w:=by
 go_enter Tryz.func39,Tryz.ntmps39;go_wp2
 all_goals
  go_ret;exact ⟨nC0 (by unfold inB;first | (simp [*];done) | (simp [*];omega)),rfl⟩
set_option maxHeartbeats 400000 in
theorem jA0 (p q:Int) (w:World):
  Calls Tryz.prog 38 #[.int .i64 p,.int .i64 q] w fun e w'=>e=.returned (.bool (cI0 p q))∧w'=w:=by
 cases hp:inB 1 1000000 p with
 | false=>
  have HR:Hid (cI0 p q=false):=by unfold cI0;rw [hp];rfl
  have HP:Hid (inB 1 1000000 p=false):=hp;clear hp;go_enter Tryz.func38,Tryz.ntmps38;go_wp2_with fail;refine (oX0 p 1 1000000 _).mono ?_;rintro e w' ⟨rfl,rfl⟩;rw [HP.out];go_wp2_with fail;go_ret;exact ⟨by rw [HR.out];rfl,rfl⟩
 | true=>
  have HR:Hid (cI0 p q=inB 1 1000000 q):=by unfold cI0;rw [hp];rfl
  have HP:Hid (inB 1 1000000 p=true):=hp;clear hp;go_enter Tryz.func38,Tryz.ntmps38;go_wp2_with fail;refine (oX0 p 1 1000000 _).mono ?_;rintro e w' ⟨rfl,rfl⟩;rw [HP.out];go_wp2_with fail;refine (oX0 q 1 1000000 _).mono ?_;rintro e w' ⟨rfl,rfl⟩;go_wp2_with fail;go_ret;exact ⟨by rw [HR.out];rfl,rfl⟩
set_option maxHeartbeats 400000 in
theorem oY0 (p s:Int) (w:World):
  Calls Tryz.prog 89 #[.int .i64 p,.int .i64 s] w fun e w'=>e=.returned (.tuple #[.int .i64 (bandL p s),.int .i64 (bandH p s),.int .i64 (rY0 p s)])∧w'=w:=by
 cases hp:inB 1 1000000 p with
 | false=>
  have hk:cF0 p s=false:=by unfold cF0;rw [hp];rfl
  have HR:Hid (bandL p s=0∧bandH p s=0∧rY0 p s=2):=⟨rZ0 hk,sA0 hk,zG0 hk⟩;have HP:Hid (inB 1 1000000 p=false):=hp;clear hp hk;go_enter Tryz.func89,Tryz.ntmps89;go_wp2_with fail;refine (jA0 p 1 _).mono ?_;rintro e w' ⟨rfl,rfl⟩;rw [hQ0,HP.out];go_wp2_with fail;go_ret3;exact ⟨by rw [HR.out.1,HR.out.2.1,HR.out.2.2];rfl,rfl⟩
 | true=>
  cases hs:inB 0 10000 s with
  | false=>
   have hk:cF0 p s=false:=by unfold cF0;rw [hp,hs];rfl
   have HR:Hid (bandL p s=0∧bandH p s=0∧rY0 p s=2):=⟨rZ0 hk,sA0 hk,zG0 hk⟩;have HP:Hid (inB 1 1000000 p=true):=hp;have HS:Hid (inB 0 10000 s=false):=hs;clear hp hk hs;go_enter Tryz.func89,Tryz.ntmps89;go_wp2_with fail;refine (jA0 p 1 _).mono ?_;rintro e w' ⟨rfl,rfl⟩;rw [hQ0,HP.out];go_wp2_with fail;refine (oX0 s 0 10000 _).mono ?_;rintro e w' ⟨rfl,rfl⟩;rw [HS.out];go_wp2_with fail;go_ret3;exact ⟨by rw [HR.out.1,HR.out.2.1,HR.out.2.2];rfl,rfl⟩
  | true=>
   have hk:cF0 p s=true:=by unfold cF0;rw [hp,hs];rfl
   have HR:Hid (bandL p s=max 1 (p - p*s / 10000)∧bandH p s=min 1000000 (p+p*s / 10000)∧rY0 p s=0):=⟨zE0 hk,zF0 hk,jF1 hk⟩;have HP:Hid (inB 1 1000000 p=true):=hp;have HS:Hid (inB 0 10000 s=true):=hs;have hp':=dS0 hp;have hs':=dS0 hs;have hm:=uB0 hp' hs';clear hp hk hs;go_enter Tryz.func89,Tryz.ntmps89;go_wp2_with fail;refine (jA0 p 1 _).mono ?_;rintro e w' ⟨rfl,rfl⟩;rw [hQ0,HP.out];go_wp2_with fail;refine (oX0 s 0 10000 _).mono ?_;rintro e w' ⟨rfl,rfl⟩;rw [HS.out];go_wp2_with fail
   all_goals
    go_ret3;exact ⟨by rw [HR.out.1,HR.out.2.1,HR.out.2.2];exact zD0 (by omega) (by omega),rfl⟩
set_option maxRecDepth 4000 in
set_option maxHeartbeats 1000000 in
theorem eP1 (mb:Nat) (m:Mkt) (vt vb vp vi:Value) (p:Int) (w:World) (h:w.heap[mb]? = some (.cells (mkV vt m vb vp vi) 67 (0,0))):
  Calls Tryz.prog 60 #[.pointer (some ⟨mb,0,none⟩),.int .i64 p] w fun e w'=>e=.returned (.bool (dY0 m.st m.an p))∧Below w.heap.size w w':=by
 have k1:=cell_regrown (cT0 (j:=1) h rfl);have k3:=cell_regrown (cT0 (j:=3) h rfl);have cB:∀dq os,Calls Tryz.prog 89 #[.int .i64 m.an,.int .i64 m.st] (Go.Sort.grow (redrawn w dq) os) fun e w''=>e=.returned (.tuple #[.int .i64 (bandL m.an m.st),.int .i64 (bandH m.an m.st),.int .i64 (rY0 m.an m.st)])∧∃p:Regrown,w''=Go.Sort.grow (redrawn w p.d) p.os:=fun dq os=>Calls.regrown_of ((oY0 m.an m.st _).mono fun e w' ⟨he,hw⟩=>⟨he,by rw [hw];exact Below.refl _ _⟩)
 clear h;go_enter Tryz.func60,Tryz.ntmps60;go_wp2_with fail;refine wp_region_quiet_below (by kernel_rfl) (by kernel_rfl) ?_
 repeat (go_big_quiet_step (exact cB _ _))
 refine wpQuiet_nil ?_;intro _ hw';obtain ⟨⟨dq,osq⟩,hw''⟩:=hw';subst hw'';have hbw:=below_regrown w dq osq;generalize Go.Sort.grow (redrawn w dq) osq=w5 at hbw ⊢;clear k1 k3 cB;go_wp2_with fail;refine (oX0 p _ _ _).mono ?_;rintro e w' ⟨rfl,rfl⟩;go_wp2;go_ret;exact ⟨rfl,hbw⟩
set_option maxRecDepth 4000 in
set_option maxHeartbeats 1000000 in
theorem eQ1 (mb:Nat) (m:Mkt) (vt vb vp vi:Value) (p:Int) (w:World) (h:w.heap[mb]? = some (.cells (mkV vt m vb vp vi) 67 (0,0))):
  Calls Tryz.prog 45 #[.pointer (some ⟨mb,0,none⟩),.int .i64 p] w fun e w'=>e=.returned (.bool (dM0 m.st m.dy m.an m.la p))∧Below w.heap.size w w':=by
 have k2:=cell_regrown (cT0 (j:=2) h rfl);have k4:=cell_regrown (cT0 (j:=4) h rfl);have cB:∀dq os,Calls Tryz.prog 89 #[.int .i64 m.la,.int .i64 m.dy] (Go.Sort.grow (redrawn w dq) os) fun e w''=>e=.returned (.tuple #[.int .i64 (bandL m.la m.dy),.int .i64 (bandH m.la m.dy),.int .i64 (rY0 m.la m.dy)])∧∃p:Regrown,w''=Go.Sort.grow (redrawn w p.d) p.os:=fun dq os=>Calls.regrown_of ((oY0 m.la m.dy _).mono fun e w' ⟨he,hw⟩=>⟨he,by rw [hw];exact Below.refl _ _⟩)
 have HA:Hid (w.heap[mb]? = some (.cells (mkV vt m vb vp vi) 67 (0,0))):=h;clear h;go_enter Tryz.func45,Tryz.ntmps45;go_wp2_with fail;refine wp_region_quiet_below (by kernel_rfl) (by kernel_rfl) ?_
 repeat (go_big_quiet_step (exact cB _ _))
 refine wpQuiet_nil ?_;intro _ hw';obtain ⟨⟨dq,osq⟩,hw''⟩:=hw';subst hw'';have hbw:=below_regrown w dq osq;generalize Go.Sort.grow (redrawn w dq) osq=w5 at hbw ⊢;have HB:Hid (Below w.heap.size w w5):=hbw;clear k2 k4 cB hbw;go_wp2_with fail;refine (eP1 mb m vt vb vp vi p _ (zH0 HA.out HB.out lR7)).mono ?_;rintro e w6 ⟨rfl,hb6⟩;have HB6:Hid (Below w.heap.size w w6):=hE0 HB.out hb6;clear hb6;cases hc:dY0 m.st m.an p with
 | true=>
  have HC:Hid (dM0 m.st m.dy m.an m.la p=dY0 m.dy m.la p):=by unfold dM0;rw [hc];rfl
  clear hc;go_wp2_with fail;refine (oX0 p _ _ _).mono ?_;rintro e w' ⟨rfl,rfl⟩;go_wp2;go_ret;exact ⟨by rw [HC.out];rfl,HB6.out⟩
 | false=>
  have HC:Hid (dM0 m.st m.dy m.an m.la p=false):=by unfold dM0;rw [hc];rfl
  clear hc;go_wp2_with fail;go_ret;exact ⟨by rw [HC.out];rfl,HB6.out⟩
theorem oO1 (F:Nat→Prop) (base mb bt ct:Nat) (m:Mkt) (vb vp vi:Value) (p:Int) (w:World) (h:MkIs w F base mb bt ct m vb vp vi):
  Calls Tryz.prog 60 #[.pointer (some ⟨mb,0,none⟩),.int .i64 p] w fun e w'=>e=.returned (.bool (dY0 m.st m.an p))∧Below w.heap.size w w':=eP1 mb m _ vb vp vi p w h.box
set_option maxRecDepth 4000 in
set_option maxHeartbeats 1000000 in
theorem wZ0 (base:Nat) (sp:Spot) (v:Value) (l:List Ord) (id:Int) (w:World) (h:BookIs w base sp v l) (hl:l.length≤1000):
  Calls Tryz.prog 87 #[.pointer (some ⟨sp.bb,sp.off,none⟩),.int .i64 id] w fun e w'=>e=.returned (.int .i64 (idxO id l))∧Below w.heap.size w w':=by
 have c0:w.cell? ⟨sp.bb,sp.off,none⟩=some v:=h.cell;have HA:Hid (BookIs w base sp v l):=h;obtain ⟨ao,cap,rfl,_,_⟩:=aW0 h.all;clear h;go_enter Tryz.func87,Tryz.ntmps87;go_wp2_with fail;go_loopw [12] (fun v wr=>∃k:Nat,k≤l.length∧v=.int .i64 k∧Below w.heap.size w wr∧idxF id k (l.drop k)=idxO id l) (fun v _=>l.length - (intOf v).toNat)
 case atStart=>exact ⟨0,Nat.zero_le _,rfl,Below.refl _ _,rfl⟩
 case round=>
  obtain ⟨k,hk,rfl,hb,hq⟩:=hrel;have HB:Hid (Below w.heap.size w wr):=hb;have HQ:Hid (idxF id k (l.drop k)=idxO id l):=hq;clear hb hq
  by_cases hk1:k<l.length
  ·obtain ⟨g,cap',hv,d0,d1,d2,d3,d4⟩:=cD0 (HA.out.below HB.out lR7).all hk1;simp only [Value.slice.injEq,true_and] at hv;obtain ⟨rfl,rfl⟩:=hv
   by_cases hx:(oAt l k).id=id
   ·have HX:Hid ((oAt l k).id=id):=hx;rw [hx] at d0;clear hx;go_wp2_with fail;go_ret;exact ⟨by rw [←HQ.out,rL0 hk1 HX.out];rfl,HB.out.alloc HB.out.size _⟩
   ·have hxb:((oAt l k).id == id)=false:=beq_eq_false_iff_ne.2 hx;have HX:Hid (¬(oAt l k).id=id):=hx;clear hx;go_wp2_with fail;go_roundw
    case rel=>exact ⟨k+1,hk1,by go_num,HB.out.alloc HB.out.size _,(nP0 hk1 HX.out).trans HQ.out⟩
    case measure=>simp [intOf];omega
  ·go_wp2_with fail;go_ret;exact ⟨by rw [←HQ.out,rM0 (by omega)];rfl,HB.out⟩
theorem eR1 {w w1:World} {B:Nat} (hb:Below B (w.alloc (.cells #[.int .i64 0,.int .i64 0,.int .i64 0,.int .i64 0,.int .i64 0] 41)) w1) (hB:w.heap.size<B):
  w1.heap[w.heap.size]? = some (.cells #[.int .i64 0,.int .i64 0,.int .i64 0,.int .i64 0,.int .i64 0] 41 (0,0)):=(hb.block _ hB).trans (heap_alloc_new w _)
theorem aZ0 {w:World} {b j:Nat} {vs:Array Value} {t:TypeId} {v:Value} (h:w.heap[b]? = some (.cells vs t (0,0))) (hj:vs[j]? = some v):w.cell? ⟨b,j,none⟩=some v:=(cell_of_row w b j vs t (0,0) h).trans hj
theorem fR0 {w:World} {b j:Nat} {vs:Array Value} {t:TypeId} (h:w.heap[b]? = some (.cells vs t (0,0))):w.frozen? ⟨b,j,none⟩=false:=frozen_of_row w b j vs t h
set_option maxHeartbeats 400000 in
theorem bkIn (x a b:Int) (w:World):Calls Tryz.prog 39 #[.int .i64 x,.int .i64 a,.int .i64 b] w fun e w'=>e=.returned (.bool (decide (a≤x)&& decide (x≤b)))∧w'=w:=by
 by_cases h:a≤x
 ·go_enter Tryz.func39,Tryz.ntmps39;go_wp2;go_ret;exact ⟨by rw [decide_eq_true h,Bool.true_and];rfl,rfl⟩
 ·go_enter Tryz.func39,Tryz.ntmps39;go_wp2;go_ret;exact ⟨by rw [decide_eq_false (by omega),Bool.false_and];rfl,rfl⟩
set_option maxHeartbeats 400000 in
theorem xA0 (p q:Int) (w:World):Calls Tryz.prog 38 #[.int .i64 p,.int .i64 q] w fun e w'=>e=.returned (.bool (eW0 p q))∧w'=w:=by
 go_enter Tryz.func38,Tryz.ntmps38;go_wp2_with fail;refine (bkIn p 1 1000000 _).mono ?_;rintro e w1 ⟨rfl,hw⟩;subst hw;cases hp:(decide (1≤p)&& decide (p≤1000000)) with
 | false=>
  have HP:Hid ((decide (1≤p)&& decide (p≤1000000))=false):=hp;clear hp;go_wp2_with fail;go_ret;exact ⟨by unfold eW0;rw [HP.out,Bool.false_and];rfl,rfl⟩
 | true=>
  have HP:Hid ((decide (1≤p)&& decide (p≤1000000))=true):=hp;clear hp;go_wp2_with fail;refine (bkIn q 1 1000000 _).mono ?_;rintro e w2 ⟨rfl,hw⟩;subst hw;generalize hq:(decide (1≤q)&& decide (q≤1000000))=bq;have HQ:Hid ((decide (1≤q)&& decide (q≤1000000))=bq):=hq;clear hq;go_wp2_with fail;go_ret;exact ⟨by unfold eW0;rw [HP.out,HQ.out,Bool.true_and];rfl,rfl⟩
theorem dN0 {W:World} {base b:Nat} (h:W.heap[b]? = some (.cells #[] 41 (0,0))) (hb:base≤b):W.ownsRow base 41 5 (.slice (some ⟨b,0,none⟩) 0 0) 0 []:=⟨rfl,Or.inr ⟨b,0,#[],rfl,hb,h,lR7,Nat.zero_le _,rfl,rfl⟩⟩
theorem xB0 {w W:World} {base g n cap:Nat} {xs:List Value} (h:w.ownsRow base 41 5 (.slice (some ⟨g,0,none⟩) n cap) n xs) (hb:Below w.heap.size w W):∀j u,xs[j]? = some u→W.cell? ((⟨g,0,none⟩:Addr).add j)=some u:=fun j u hu=>by
 have h1:=h.cells rfl j u hu;rw [Addr.add_lit] at h1 ⊢;exact (hb.cell (World.block_lt_of_cell? w _ h1)).trans h1
theorem uO0 (w:World) (o:Obj):Below w.heap.size w (w.alloc o):=(Below.refl _ _).alloc lR7 o
theorem mS1 (w:World) (o o':Obj):((w.alloc o).alloc o').heap[w.heap.size]? = some o:=(Below.heap_alloc (w.alloc o) o' w.heap.size (by simp)).trans (heap_alloc_new w o)
theorem eS1 (w:World) (o o':Obj):((w.alloc o).alloc o').heap[w.heap.size+1]? = some o':=by
 have:=heap_alloc_new (w.alloc o) o'
 rwa [show (w.alloc o).heap.size=w.heap.size+1 by simp] at this
def Lies (w:World) (ao:Option Addr) (m:Nat) (news:List Value):Prop:=(m=0∧news=[])∨∃ad,ao=some ad∧∀j u,news[j]? = some u→w.cell? (ad.add j)=some u
theorem qC0 {P:Program} (w:World) (t ty:TypeId) (base:Nat) (e:TypeId) (i:TypeInfo) (z:Value) (size bytes:Nat) (ht:P.underlying t=some (.slice e)) (hi:P.info? e=some i) (hz:i.zero=some z)
  (hsize:i.size=size) (hby:i.bytes=bytes) (hzs:z.cells.size=size) (hsz:0<size)
  (b n c0:Nat) (xs:List Value) (hown:w.ownsRow base e size (.slice (some ⟨b,0,none⟩) n c0) n xs)
  (ao:Option Addr) (m c:Nat) (news:List Value) (hl:news.length=m*size) (hx:Lies w ao m news) (h1:∀u∈news,u.oneCell'=true)
  (h63:n+m≤maxLen) (hbytes:(n+m)*bytes≤140737488355328) (hbase:base≤w.heap.size):
  ∃g cap w',(Builtin.append_ #[t,t] ty #[.slice (some ⟨b,0,none⟩) n c0,.slice ao m c]).run P w=.ok (.slice (some ⟨g,0,none⟩) (n+m) cap) w'∧
   w'.ownsRow base e size (.slice (some ⟨g,0,none⟩) (n+m) cap) (n+m) (xs++news)∧w.grownBy w' (some b)∧(g=b∨g=w.heap.size)∧g<w'.heap.size:=by
 by_cases hm:0<m
 ·rcases hx with ⟨h0,_⟩ | ⟨ad,rfl,hc⟩
  ·omega
  ·obtain ⟨g,cap,w',hr,h2,h3,h4,h5⟩:=run_append_lies (P:=P) w t ty base e i z size bytes ht hi hz hsize hby hzs hsz _ n xs hown ad m c news hl hc h1 hm h63 hbytes hbase _ rfl;refine ⟨g,cap,w',hr,h2,h3,?_,h5⟩;rcases h4 with h4 | h4
   ·left;simpa [Value.ownBlock] using h4.symm
   ·exact Or.inr h4
 ·obtain rfl:m=0:=by omega
  obtain rfl:news=[]:=List.eq_nil_of_length_eq_zero (by omega);obtain ⟨ao',cap',hv,hle,_⟩:=aW0 hown;simp only [Value.slice.injEq,true_and] at hv;obtain ⟨_,rfl⟩:=hv;refine ⟨b,c0,w,?_,by rw [Nat.add_zero,List.append_nil];exact hown,World.grownBy.refl _ _,Or.inl rfl,?_⟩
  ·rw [Nat.add_zero]
   exact run_append_nothing w t t ty e i ht hi _ n c0 hle _ (by
    rw [hsize];cases ao with
    | none=>exact Src.ofNil (w:=w) (hk:=ht) (c:=c)
    | some ad=>exact Src.ofSlice (w:=w) (hk:=ht) (a:=ad) (n:=0) (c:=c) (news:=[]) (by simp) (by simp) (by simp))
  ·exact (hown.lt b rfl).2
theorem iH0 {P:Program} (w:World) {o:Oper} {a:Act} {K:Act→World→Prop} {Q:Exit→Act→World→Prop} (s x:Operand) (t:TypeId)
  (ho:o.op=.call { callee:=.builtin .append,args:=#[s,x],argTypes:=#[t,t] })
  (base:Nat) (e:TypeId) (i:TypeInfo) (z:Value) (size bytes:Nat) (ht:P.underlying t=some (.slice e)) (hi:P.info? e=some i) (hz:i.zero=some z)
  (hsize:i.size=size) (hby:i.bytes=bytes) (hzs:z.cells.size=size) (hsz:0<size)
  (b n c0:Nat) (xs:List Value) (hs:a.eval s=.slice (some ⟨b,0,none⟩) n c0) (hown:w.ownsRow base e size (.slice (some ⟨b,0,none⟩) n c0) n xs)
  (ao:Option Addr) (m c:Nat) (news:List Value) (hv:a.eval x=.slice ao m c) (hl:news.length=m*size) (hx:Lies w ao m news) (h1:∀u∈news,u.oneCell'=true)
  (h63:n+m≤maxLen) (hbytes:(n+m)*bytes≤140737488355328) (hbase:base≤w.heap.size)
  (h:∀g cap w',w'.ownsRow base e size (.slice (some ⟨g,0,none⟩) (n+m) cap) (n+m) (xs++news)→w.grownBy w' (some b)→(g=b∨g=w.heap.size)→g<w'.heap.size→K (a.put o.dst (.slice (some ⟨g,0,none⟩) (n+m) cap)) w'):o.wp P a w K Q:=by
 obtain ⟨g,cap,w',hr,h2,h3,h4,h5⟩:=qC0 (P:=P) w t o.type base e i z size bytes ht hi hz hsize hby hzs hsz b n c0 xs hown ao m c news hl hx h1 h63 hbytes hbase;unfold Oper.wp execOp;simp only [ho,resolve,invoke,builtin,Sem.run_bind,Sem.run_pure,Result.andThen_ok,List.map_toArray,List.map_cons,List.map_nil,hs,hv,hr];exact h g cap w' h2 h3 h4 h5
theorem aV0 {P:Program} (w:World) {ops:Array Oper} {o:Oper} {a:Act} {K:Act→World→Prop} {Q:Exit→Act→World→Prop} {E:Prop} (hgd:o.guard=none) (s x:Operand) (t:TypeId)
  (ho:o.op=.call { callee:=.builtin .append,args:=#[s,x],argTypes:=#[t,t] })
  (base:Nat) (e:TypeId) (i:TypeInfo) (z:Value) (size bytes:Nat) (ht:P.underlying t=some (.slice e)) (hi:P.info? e=some i) (hz:i.zero=some z)
  (hsize:i.size=size) (hby:i.bytes=bytes) (hzs:z.cells.size=size) (hsz:0<size)
  (b n c0:Nat) (xs:List Value) (hs:a.eval s=.slice (some ⟨b,0,none⟩) n c0) (hown:w.ownsRow base e size (.slice (some ⟨b,0,none⟩) n c0) n xs)
  (ao:Option Addr) (m c:Nat) (news:List Value) (hv:a.eval x=.slice ao m c) (hl:news.length=m*size) (hx:Lies w ao m news) (h1:∀u∈news,u.oneCell'=true)
  (h63:n+m≤maxLen) (hbytes:(n+m)*bytes≤140737488355328) (hbase:base≤w.heap.size)
  (h:∀g cap w',w'.ownsRow base e size (.slice (some ⟨g,0,none⟩) (n+m) cap) (n+m) (xs++news)→w.grownBy w' (some b)→(g=b∨g=w.heap.size)→g<w'.heap.size→K (a.put o.dst (.slice (some ⟨g,0,none⟩) (n+m) cap)) w'):
  if Region.wanted o (yielded ops a.tmps)=true then Oper.wp P o a w K Q else E:=by
 have hw:Region.wanted o (yielded ops a.tmps)=true:=by simp [Region.wanted,hgd]
 rw [if_pos hw];exact iH0 w s x t ho base e i z size bytes ht hi hz hsize hby hzs hsz b n c0 xs hs hown ao m c news hv hl hx h1 h63 hbytes hbase h
theorem Lies.of_row {w W:World} {base:Nat} {ao:Option Addr} {cap:Nat} {l:List Ord} (h:w.ownsRow base 41 5 (.slice ao l.length cap) l.length (oV l)) (hb:Below w.heap.size w W):Lies W ao l.length (oV l):=by
 cases l with
 | nil=>exact Or.inl ⟨rfl,rfl⟩
 | cons o l=>
  obtain ⟨g,cap',hv,_,_⟩:=h.form (by simp);simp only [Value.slice.injEq,true_and] at hv;obtain ⟨rfl,rfl⟩:=hv;exact Or.inr ⟨_,rfl,xB0 h hb⟩
theorem Lies.of_one {W:World} {b:Nat} {cs:Array Value} {t:TypeId} {m:Nat} (h:W.heap[b]? = some (.cells cs t (0,0))):Lies W (some ⟨b,0,none⟩) m cs.toList:=Or.inr ⟨_,rfl,World.news_of_block h⟩
end Go.Proofs.YtjdkagafdnchhaaGreatDoor
