/- A part of the proof of EnginePlays. -/
import Derived.Test.YtjdkagafdnchhaaGreatDoorPA
import Derived.Test.YtjdkagafdnchhaaGreatDoorPM
import Derived.Test.YtjdkagafdnchhaaGreatDoorPO
namespace Go.Proofs.YtjdkagafdnchhaaGreatDoor
open Go.RowKit
def oBox (p:Ord):Obj:=.cells #[.int .i64 p.id,.int .i64 p.side,.int .i64 p.kind,.int .i64 p.price,.int .i64 p.qty] 41 (0,0)
structure OrdBx (w W:World) (mb:Nat) (p:Ord):Prop where
 ptr:W.heap[w.heap.size]? = some (.cells #[.pointer (some ⟨mb,0,none⟩)] 31 (0,0))
 box:W.heap[w.heap.size+1]? = some (oBox p)
theorem OrdBx.below {w W W':World} {mb:Nat} {p:Ord} (h:OrdBx w W mb p) (hb:Below W.heap.size W W'):OrdBx w W' mb p:=⟨aC0 h.ptr hb lR7,aC0 h.box hb lR7⟩
theorem OrdBx.out {w W W':World} {mb:Nat} {p:Ord} (h:OrdBx w W mb p) (ho:Out (fun j=>j=mb) W W') (hm:mb<w.heap.size):OrdBx w W' mb p:=⟨aE0 h.ptr ho (fun e=>by have:w.heap.size=mb:=e;omega),aE0 h.box ho (fun e=>by have:w.heap.size+1=mb:=e;omega)⟩
def inM (mb:Nat) (vi:Value):Nat→Prop:=fun j=>j=mb∨vi.ownBlock=some j
theorem pD1 {P:Program} {ops:Array Oper} {o:Oper} {a:Act} {w:World} {K:Act→World→Prop} {Q:Exit→Act→World→Prop} {E:Prop}
  (hg:o.guard=none) (s x:Operand) (t:TypeId) (hop:o.op=Op.call { callee:=Callee.builtin Builtin.append,args:=#[s,x],argTypes:=#[t,t] })
  (base:Nat) (e:TypeId) (i:TypeInfo) (z:Value) (size bytes:Nat) (ht:P.underlying t=some (.slice e)) (hi:P.info? e=some i) (hz:i.zero=some z)
  (hsize:i.size=size) (hby:i.bytes=bytes) (hzs:z.cells.size=size) (hsz:0<size)
  (v:Value) (n:Nat) (xs:List Value) (hs:a.eval s=v) (hown:w.ownsRow base e size v n xs)
  (ad:Addr) (m c:Nat) (news:List Value) (hx:a.eval x=.slice (some ad) m c) (hl:news.length=m*size) (hnews:∀j u,news[j]? = some u→w.cell? (ad.add j)=some u) (h1:∀u∈news,u.oneCell'=true)
  (h63:n+m≤maxLen) (hbytes:(n+m)*bytes≤140737488355328) (hbase:base≤w.heap.size)
  (h:∀v' w',w'.ownsRow base e size v' (n+m) (xs++news)→w.grownBy w' v.ownBlock→(∀j,v'.ownBlock=some j→v.ownBlock=some j∨w.heap.size≤j)→K (a.put o.dst v') w'):
  if Region.wanted o (yielded ops a.tmps)=true then Oper.wp P o a w K Q else E:=by
 have hw:Region.wanted o (yielded ops a.tmps)=true:=by simp [Region.wanted,hg]
 rw [if_pos hw];have hsh:=hown.2;rcases hsh with ⟨hv,hn⟩ | ⟨g,cap,cur,hv,_⟩
 ·subst hn;subst hv;have hl0:xs=[]:=by have:=hown.1;simpa using this
  subst hl0;exact wp_append_own w s x t hop w.heap.size e i z size bytes ht hi hz hsize hby hzs hsz (.slice none 0 0) 0 [] hs (World.ownsRow_nil _ _ _ _) ad m c news hx hl hnews h1 h63 hbytes lR7 (fun v' w' h2 h3 _=>h v' w' (bP0 h2 hbase) h3 (fun j hj=>Or.inr (h2.lt j hj).1))
 ·subst hv
  exact iH0 w s x t hop base e i z size bytes ht hi hz hsize hby hzs hsz g n cap xs hs hown (some ad) m c news hx hl (Or.inr ⟨ad,rfl,hnews⟩) h1 h63 hbytes hbase (fun g' cap' w' h2 h3 h4 _=>h _ w' h2 h3 (fun j hj=>by
   have e1:g'=j:=by simpa [Value.ownBlock] using hj
   subst e1;rcases h4 with rfl | rfl
   ·exact Or.inl hj
   ·exact Or.inr lR7))
theorem dU0 {P:Program} {ops:Array Oper} {Q:Exit→Act→World→Prop} {md:Region.Mode} {S:Nat→World→Prop} {L:Nat→Nat→Bool} {i j:Nat} {oi oj:Oper} {fuel:Nat} {listed:Array Bool} {a:Act} {w:World} (hr:Region.ready md ops listed=[i,j]) (hi:ops[i]? = some oi) (hj:ops[j]? = some oj)
  (h1:∀K':Act→World→Prop,Shut (∀a w',(∀n,L n i=false→S n w→S n w')→eZ0 P md ops Q S L fuel (listed.setIfInBounds i true) a w'→K' a w')→if Region.wanted oi (yielded ops a.tmps)=true then Oper.wp P oi a w K' Q else K' (a.put oi.dst undef) w)
  (h2:∀K':Act→World→Prop,Shut (∀a w',(∀n,L n j=false→S n w→S n w')→eZ0 P md ops Q S L fuel (listed.setIfInBounds j true) a w'→K' a w')→if Region.wanted oj (yielded ops a.tmps)=true then Oper.wp P oj a w K' Q else K' (a.put oj.dst undef) w):eZ0 P md ops Q S L (fuel+1) listed a w:=
 ⟨fun h0=>(by rw [hr] at h0;cases h0),fun k hk=>by
  rw [hr] at hk;rcases List.mem_cons.1 hk with rfl | hk
  ·exact wpOp_step hi (fun K' hK=>h1 K' (fun a w' hS hW=>hK a w' ⟨hS,hW⟩))
  ·rcases List.mem_cons.1 hk with rfl | hk
   ·exact wpOp_step hj (fun K' hK=>h2 K' (fun a w' hS hW=>hK a w' ⟨hS,hW⟩))
   ·cases hk⟩
theorem MkIs.grew {W V w1:World} {F:Nat→Prop} {base mb bt ct:Nat} {m:Mkt} {vb vp vi:Value} (h:MkIs W F base mb bt ct m vb vp vi) (hb:Below W.heap.size W V) (hg:V.grownBy w1 vi.ownBlock):
  w1.heap[mb]? = some (.cells (mkV (.slice (some ⟨bt,0,none⟩) m.rs.length ct) m vb vp vi) 67 (0,0))∧Out (fun j=>vi.ownBlock=some j) W w1:=by
 have hV:=h.below hb;have ho:Out (fun j=>vi.ownBlock=some j) V w1:=Out.of_grown hg (fun k hk=>hk);exact ⟨aE0 hV.box ho (aG0 hV.ids hV.box (by decide)),(Out.of_below hb lR7).trans ho (fun k hk=>Or.inl hk)⟩
theorem MkIs.took {W w1:World} {F:Nat→Prop} {base mb bt ct:Nat} {m:Mkt} {vb vp vi v1:Value} {id:Int} (h:MkIs W F base mb bt ct m vb vp vi) (ho:Out (fun j=>vi.ownBlock=some j) W w1) (h1:w1.ownsRow base 3 1 v1 (m.I.length+1) (nV m.I++[.int .i64 id])) (hbt:bt<base) (hfi:∀j,v1.ownBlock=some j→¬F j):
  MkIs (w1.setCell ⟨mb,9,none⟩ v1) F base mb bt ct { m with I:=m.I++[id] } vb vp v1∧Out (inM mb vi) W (w1.setCell ⟨mb,9,none⟩ v1):=by
 have hbox:=aE0 h.box ho (aG0 h.ids h.box (by decide));have ht:=eI0 h.tab ho (fun e=>by have:=(h.ids.lt bt e).1;omega);have hk:=aI0 h.bk ho (fun k hk=>bG0 h.bk h.ids (by decide) hk);have hp:=aI0 h.pk ho (fun k hk=>bG0 h.pk h.ids (by decide) hk)
 have hi:w1.ownsRow base 3 1 v1 (m.I++[id]).length (nV (m.I++[id])):=by
  rw [List.length_append,List.length_singleton,show nV (m.I++[id])=nV m.I++[.int .i64 id] by simp [nV]];exact h1
 have h2:=aQ0 w1 ⟨mb,9,none⟩ v1;refine ⟨⟨aK0 (j:=9) v1 hbox,eI0 ht h2 h.tne,h.tne,aI0 hk h2 (fun k hj e=>aG0 hk hbox (by decide) (hj.trans (congrArg some e))),aI0 hp h2 (fun k hj e=>aG0 hp hbox (by decide) (hj.trans (congrArg some e))),aI0 hi h2 (fun k hj e=>aG0 hi hbox (by decide) (hj.trans (congrArg some e))),fun j hj=>Nat.lt_of_lt_of_le (h.lim j hj) (Nat.le_trans ho.size h2.size),h.farb,h.farp,hfi⟩,?_⟩;refine Out.trans (S:=inM mb vi) ⟨ho.os,ho.tape,ho.output,ho.size,fun j hj hS=>ho.block j hj (fun e=>hS (Or.inr e))⟩ h2 (fun k hk=>Or.inl (Or.inl hk))
theorem qW0 {W W':World} {mb:Nat} {vi:Value} (h:Out (fun j=>j=mb) W W'):Out (inM mb vi) W W':=⟨h.os,h.tape,h.output,h.size,fun j hj hS=>h.block j hj (fun e=>hS (Or.inl e))⟩
theorem OrdBx.outI {w W W':World} {mb:Nat} {p:Ord} {vi:Value} (h:OrdBx w W mb p) (ho:Out (fun j=>vi.ownBlock=some j) W W') (hv:∀j,vi.ownBlock=some j→j<w.heap.size):OrdBx w W' mb p:=⟨aE0 h.ptr ho (fun e=>by have:=hv _ e;omega),aE0 h.box ho (fun e=>by have:=hv _ e;omega)⟩
def iAt (I:List Int) (k:Nat):Int:=I.getD k 0
theorem rR1 {w:World} {base:Nat} {v:Value} {I:List Int} (h:w.ownsRow base 3 1 v I.length (nV I)) {k:Nat} (hk:k<I.length):∃g cap,v=.slice (some ⟨g,0,none⟩) I.length cap∧w.cell? ⟨g,k,none⟩=some (.int .i64 (iAt I k)):=by
 obtain ⟨g,cap,rfl,_,_⟩:=h.form (by omega);refine ⟨g,cap,rfl,?_⟩;have h1:=h.cellAt k (by omega);rw [show (nV I)[k]? = some (.int .i64 (iAt I k)) by simp [nV,iAt,hk]] at h1;exact h1
theorem pE1 {I:List Int} {k:Nat} (h:k<I.length):I.drop k=iAt I k::I.drop (k+1):=by
 rw [List.drop_eq_getElem_cons h];simp [iAt,h]
theorem pF1 {I:List Int} {k:Nat} (h:k<I.length):iAt I k∈I:=by
 simp [iAt,h]
theorem MkIs.ban {W W':World} {F:Nat→Prop} {base mb bt ct lb:Nat} {m:Mkt} {vb vp vi:Value} (h:MkIs W F base mb bt ct m vb vp vi) (hb:Below W.heap.size W W') (h1:W.heap.size≤lb) (h2:lb<W'.heap.size):MkIs W' (fun j=>F j∨j=lb) base mb bt ct m vb vp vi:=by
 have h':=h.below hb;refine ⟨h'.box,h'.tab,h'.tne,h'.bk,h'.pk,h'.ids,fun j hj=>hj.elim (h'.lim j) (fun e=>by rw [e];exact h2),fun j hj e=>e.elim (h.farb j hj) (fun e=>?_),fun j hj e=>e.elim (h.farp j hj) (fun e=>?_),fun j hj e=>e.elim (h.fari j hj) (fun e=>?_)⟩
 ·have:=(h.bk.lt j hj).2;omega
 ·have:=(h.pk.lt j hj).2;omega
 ·have:=(h.ids.lt j hj).2;omega
theorem MkIs.unban {W W':World} {F:Nat→Prop} {base mb bt ct lb:Nat} {m:Mkt} {vb vp vi:Value} (h:MkIs W (fun j=>F j∨j=lb) base mb bt ct m vb vp vi) (ho:Out (fun j=>j=lb) W W') (h1:mb≠lb) (h2:bt≠lb):MkIs W' F base mb bt ct m vb vp vi:=
 ⟨aE0 h.box ho h1,eI0 h.tab ho h2,h.tne,aI0 h.bk ho (fun j hj e=>h.farb j hj (Or.inr e)),aI0 h.pk ho (fun j hj e=>h.farp j hj (Or.inr e)),aI0 h.ids ho (fun j hj e=>h.fari j hj (Or.inr e)),fun j hj=>Nat.lt_of_lt_of_le (h.lim j (Or.inl hj)) ho.size,fun j hj e=>h.farb j hj (Or.inl e),fun j hj e=>h.farp j hj (Or.inl e),fun j hj e=>h.fari j hj (Or.inl e)⟩
theorem xN0 (al:List Int→Int→Bool) (o:Ord):∀(X:List Ord) (s:MS),(bS0 al o X s).1.L.length≤s.L.length
 | [],s=>by unfold bS0;exact lR7
 | x::T,s=>by
  by_cases h0:s.q≤0
  ·rw [eN0 h0];exact lR7
  by_cases hk:x.kind=2
  ·rw [lW0 hk];exact xN0 al o T s
  cases hf:farB o x with
  | true=>rw [iU0 (by omega) hk hf];exact lR7
  | false=>
   cases ha:al s.ts x.price with
   | false=>rw [hM0 (by omega) hk hf ha];exact lR7
   | true=>
    rw [gN0 (by omega) hk hf ha];refine Nat.le_trans (xN0 al o T (gU0 o x s)) ?_;unfold gU0;exact lX0 _ _ _
def pG1 (F:Nat→Prop) (w wd:World) (base mb bt ct:Nat) (m:Mkt) (vp vi:Value) (p:Ord) (u8 u9 u10:Value) (wc:World):Prop:=
 ∃(lb:Nat) (v':Value),u9=.pointer (some ⟨lb,0,none⟩)∧u10=.bool (bM0 m p).2∧wc.ownsRow w.heap.size 115 4 u8 (bM0 m p).1.fs.length (fV (bM0 m p).1.fs)∧wc.heap[lb]? = some (oBox (bJ0 p (bM0 m p).1.q))∧wd.heap.size≤lb
  ∧MkIs wc F base mb bt ct { m with L:=(bM0 m p).1.L,la:=bW0 m.la (bM0 m p).1.ts } v' vp vi∧OrdBx w wc mb p∧Out (fun j=>j=mb) wd wc
set_option maxRecDepth 4000 in
set_option maxHeartbeats 4000000 in
theorem pH1 (F:Nat→Prop) (base mb bt ct:Nat) (m:Mkt) (vb vp vi:Value) (o:Ord) (w:World) (h:MkIs w F base mb bt ct m vb vp vi) (hL:m.L.length≤100) (hok:LOk m.L) (hP:m.P.length≤100) (hI:m.I.length≤100000) (hbs:base≤w.heap.size) (hbt:bt<base) (hr:0<m.rs.length) (hn:0≤m.now∧m.now≤1000000000000) (ht:0≤m.ti∧m.ti≤1000000000000):
  Calls Tryz.prog 9 #[.pointer (some ⟨mb,0,none⟩),o.agg] w fun e w'=>∃vf vb' vp' vi',e=.returned (.tuple #[vf,.int .i64 (ordN m o)])∧w'.ownsRow w.heap.size 115 4 vf (ordM m o).1.length (fV (ordM m o).1)∧MkIs w' F base mb bt ct (ordM m o).2 vb' vp' vi'∧Out (inM mb vi) w w':=by
 have H:Hid (MkIs w F base mb bt ct m vb vp vi):=h;have HK:Hid (LOk m.L):=hok;have hmb:mb<w.heap.size:=lt_of_block h.box;have HVI:Hid (∀j,vi.ownBlock=some j→j<w.heap.size):=fun j hj=>(h.ids.lt j hj).2
 have STAY:Hid (∀w',Below w.heap.size w w'→ordN m o≠0→w'.ownsRow w.heap.size 115 4 (.slice none 0 0) (ordM m o).1.length (fV (ordM m o).1)∧MkIs w' F base mb bt ct (ordM m o).2 vb vp vi∧Out (inM mb vi) w w'):=fun w' hb hn=>by
  have e:ordM m o=([],m):=by unfold ordM;rw [if_neg hn]
  rw [e];exact ⟨World.ownsRow_nil _ _ _ _,H.out.below hb,Out.of_below hb lR7⟩
 clear h hok;unfold Ord.agg;go_enter Tryz.func9,Tryz.ntmps9;go_upto_if 13 with fail;have hx0:((w.alloc (.cells #[.pointer (some ⟨mb,0,none⟩)] 31)).alloc (.cells #[.int .i64 o.id,.int .i64 o.side,.int .i64 o.kind,.int .i64 o.price,.int .i64 o.qty] 41)).heap[w.heap.size]? = some (.cells #[.pointer (some ⟨mb,0,none⟩)] 31 (0,0)):=(Below.heap_alloc _ _ _ (by simp)).trans (heap_alloc_new w _)
 have hx1:((w.alloc (.cells #[.pointer (some ⟨mb,0,none⟩)] 31)).alloc (.cells #[.int .i64 o.id,.int .i64 o.side,.int .i64 o.kind,.int .i64 o.price,.int .i64 o.qty] 41)).heap[w.heap.size+1]? = some (oBox o):=by
  have:=heap_alloc_new (w.alloc (.cells #[.pointer (some ⟨mb,0,none⟩)] 31)) (.cells #[.int .i64 o.id,.int .i64 o.side,.int .i64 o.kind,.int .i64 o.price,.int .i64 o.qty] 41)
  rwa [show (w.alloc (.cells #[.pointer (some ⟨mb,0,none⟩)] 31)).heap.size=w.heap.size+1 by simp] at this
 have hbb:=bel2 w (.cells #[.pointer (some ⟨mb,0,none⟩)] 31) (.cells #[.int .i64 o.id,.int .i64 o.side,.int .i64 o.kind,.int .i64 o.price,.int .i64 o.qty] 41);generalize (w.alloc (.cells #[.pointer (some ⟨mb,0,none⟩)] 31)).alloc (.cells #[.int .i64 o.id,.int .i64 o.side,.int .i64 o.kind,.int .i64 o.price,.int .i64 o.qty] 41)=w0 at hx0 hx1 hbb ⊢;go_cut [14] (fun _ wc=>Below w.heap.size w wc∧OrdBx w wc mb (lieO o))
 case first=>
  by_cases hk:o.kind=2
  ·have hkb:(o.kind == 2)=true:=beq_iff_eq.2 hk;have HKD:Hid (lieO o={ o with price:=1 }):=by show lieO o=_;unfold lieO;rw [if_pos hk]
   have y3:w0.cell? ⟨w.heap.size+1,3,none⟩=some (.int .i64 o.price):=aA0 (j:=3) hx1 rfl;have f3:w0.frozen? ⟨w.heap.size+1,3,none⟩=false:=aB0 (j:=3) (vs:=#[.int .i64 o.id,.int .i64 o.side,.int .i64 o.kind,.int .i64 o.price,.int .i64 o.qty]) (t:=41) hx1;have HZ:Hid (Below w.heap.size w (w0.setCell ⟨w.heap.size+1,3,none⟩ (.int .i64 1))∧OrdBx w (w0.setCell ⟨w.heap.size+1,3,none⟩ (.int .i64 1)) mb { o with price:=1 }):=⟨hbb.setCell (by simp) _,⟨(Below.heap_setCell _ _ _ _ (by simp)).trans hx0,aK0 (j:=3) (.int .i64 1) hx1⟩⟩;clear hk hx0 hx1 hbb;go_wp2_with fail;go_meet;rw [HKD.out];exact HZ.out
  ·have hkb:(o.kind == 2)=false:=beq_eq_false_iff_ne.2 hk;have HKD:Hid (lieO o=o):=by show lieO o=_;unfold lieO;rw [if_neg hk]
   have HZ:Hid _:=And.intro hbb (OrdBx.mk (mb:=mb) (p:=o) hx0 hx1);clear hk hx0 hx1 hbb;go_wp2_with fail;go_meet;rw [HKD.out];exact HZ.out
 case rest=>
  obtain ⟨hb,hx⟩:=hcut;have HB:Hid (Below w.heap.size w wc):=hb;have HX:Hid (OrdBx w wc mb (lieO o)):=hx;clear hx0 hx1 hbb;have HF:Hid ((lieO o).id=o.id∧(lieO o).side=o.side∧(lieO o).kind=o.kind∧(lieO o).qty=o.qty):=by unfold lieO;split <;> exact ⟨rfl,rfl,rfl,rfl⟩
  have HD:Hid (ordN m o=(if (decide (1≤o.side)&& decide (o.side≤2))=false∨(decide (1≤o.kind)&& decide (o.kind≤4))=false∨o.id<1 then 1 else if eW0 (lieO o).price o.qty=false then 2 else if dV0 m.ph o.kind=false then 6 else if o.id∈m.I then 9 else if 100≤m.L.length+m.P.length then 12 else 0)):=rfl;have HE:Hid (ordN m o=0→ordM m o=eO0 { m with I:=m.I++[o.id] } (lieO o)):=fun e=>by unfold ordM;rw [if_pos e]
  generalize lieO o=p at hx HX HF HD HE;have y0:wc.cell? ⟨w.heap.size+1,0,none⟩=some (.int .i64 p.id):=aA0 (j:=0) hx.box rfl;have y1:wc.cell? ⟨w.heap.size+1,1,none⟩=some (.int .i64 p.side):=aA0 (j:=1) hx.box rfl;have y2:wc.cell? ⟨w.heap.size+1,2,none⟩=some (.int .i64 p.kind):=aA0 (j:=2) hx.box rfl;have y3:wc.cell? ⟨w.heap.size+1,3,none⟩=some (.int .i64 p.price):=aA0 (j:=3) hx.box rfl;have y4:wc.cell? ⟨w.heap.size+1,4,none⟩=some (.int .i64 p.qty):=aA0 (j:=4) hx.box rfl;have y9:wc.cell? ⟨w.heap.size,0,none⟩=some (.pointer (some ⟨mb,0,none⟩)):=aA0 (j:=0) hx.ptr rfl;clear hb hx;obtain ⟨f1,f2,f3,f4⟩:=HF.out;rw [←f1,←f2,←f3,←f4] at HD;rw [←f1] at HE;clear f1 f2 f3 f4;go_wp2_with fail;refine (bkIn p.side 1 2 _).mono ?_;rintro e w1 ⟨rfl,hw⟩;subst hw;cases hs:(decide (1≤p.side)&& decide (p.side≤2)) with
  | false=>
   have E1:Hid (ordN m o=1):=by show _=_;rw [HD.out,if_pos (Or.inl hs)]
   clear hs;go_wp2_with fail;go_ret2;obtain ⟨r1,r2,r3⟩:=STAY.out _ HB.out (by rw [E1.out];decide);exact ⟨.slice none 0 0,vb,vp,vi,by rw [E1.out];rfl,r1,r2,r3⟩
  | true=>
   go_wp2_with fail;refine (bkIn p.kind 1 4 _).mono ?_;rintro e w1 ⟨rfl,hw⟩;subst hw;cases hk:(decide (1≤p.kind)&& decide (p.kind≤4)) with
   | false=>
    have E1:Hid (ordN m o=1):=by show _=_;rw [HD.out,if_pos (Or.inr (Or.inl hk))]
    clear hk;go_wp2_with fail;go_ret2;obtain ⟨r1,r2,r3⟩:=STAY.out _ HB.out (by rw [E1.out];decide);exact ⟨.slice none 0 0,vb,vp,vi,by rw [E1.out];rfl,r1,r2,r3⟩
   | true=>
    by_cases hid:p.id<1
    ·have hib:decide (p.id<1)=true:=decide_eq_true hid;have E1:Hid (ordN m o=1):=by show _=_;rw [HD.out,if_pos (Or.inr (Or.inr hid))]
     go_wp2_with fail;go_ret2;obtain ⟨r1,r2,r3⟩:=STAY.out _ HB.out (by rw [E1.out];decide);exact ⟨.slice none 0 0,vb,vp,vi,by rw [E1.out];rfl,r1,r2,r3⟩
    ·have HD2:Hid (ordN m o=(if eW0 p.price p.qty=false then 2 else if dV0 m.ph p.kind=false then 6 else if p.id∈m.I then 9 else if 100≤m.L.length+m.P.length then 12 else 0)):=by
      show _=_
      rw [HD.out,if_neg (by rw [hs,hk];rintro (e | e | e);· cases e
                            ·cases e
                            ·exact hid e)]
     have HSD:Hid ((p.side=1∨p.side=2)∧1≤p.id):=by
      have:=hs;simp at this;show (p.side=1∨p.side=2)∧1≤p.id;omega
     clear HD hs hk;go_wp2_with fail;refine (xA0 p.price p.qty _).mono ?_;rintro e w1 ⟨rfl,hw⟩;subst hw;cases hrt:eW0 p.price p.qty with
     | false=>
      have E1:Hid (ordN m o=2):=by show _=_;rw [HD2.out,if_pos hrt]
      clear hrt;go_wp2_with fail;go_ret2;obtain ⟨r1,r2,r3⟩:=STAY.out _ HB.out (by rw [E1.out];decide);exact ⟨.slice none 0 0,vb,vp,vi,by rw [E1.out];rfl,r1,r2,r3⟩
     | true=>
      have HD3:Hid (ordN m o=(if dV0 m.ph p.kind=false then 6 else if p.id∈m.I then 9 else if 100≤m.L.length+m.P.length then 12 else 0)):=by
       show _=_;rw [HD2.out,if_neg (by rw [hrt];decide)]
      have HRT:Hid (1≤p.price∧p.price≤1000000∧1≤p.qty∧p.qty≤1000000):=by
       have:=hrt;unfold eW0 at this;simp at this;show 1≤p.price∧p.price≤1000000∧1≤p.qty∧p.qty≤1000000;omega
      clear HD2 hrt;go_upto_region 7 with fail;have HM1:Hid (MkIs w1 F base mb bt ct m vb vp vi):=H.out.below HB.out;have HSS:Hid (∀w',Below w1.heap.size w1 w'→w'.cell? ⟨w.heap.size,0,none⟩=some (.pointer (some ⟨mb,0,none⟩))∧w'.cell? ⟨mb,10,none⟩=some (.int .i64 m.ph)∧w'.cell? ⟨w.heap.size+1,2,none⟩=some (.int .i64 p.kind)∧Below w1.heap.size w1 w'):=fun w' hb=>⟨aA0 (j:=0) (HX.out.below hb).ptr rfl,aA0 (j:=10) (HM1.out.below hb).box rfl,aA0 (j:=2) (HX.out.below hb).box rfl,hb⟩
      clear y0 y1 y2 y3 y4 y9 HF hid H;go_cut [43] from 36 to 43 (fun u wc=>u=.bool (!dV0 m.ph p.kind)∧Below w1.heap.size w1 wc)
      case first=>
       go_region_held3 (fun w'=>w'.cell? ⟨w.heap.size,0,none⟩=some (.pointer (some ⟨mb,0,none⟩))∧w'.cell? ⟨mb,10,none⟩=some (.int .i64 m.ph)∧w'.cell? ⟨w.heap.size+1,2,none⟩=some (.int .i64 p.kind)∧Below w1.heap.size w1 w')
        ((refine HSS.out _ ?_;(first | exact HB2.out | exact Below.refl _ _ | exact (Below.refl _ _).drew | (go_split_ands;assumption))))
        ((go_at_call 42;refine (vA0 m.ph p.kind _).mono ?_;rintro e w2 ⟨rfl,hw2⟩;subst hw2;have HB2:Hid (Below w1.heap.size w1 w1.drew):=(Below.refl _ _).drew))
       all_goals go_wp2_with fail
       all_goals go_meet
       all_goals exact ⟨rfl,(Below.refl _ _).drew⟩
      case rest=>
       obtain ⟨rfl,hb⟩:=hcut;have HM:Hid (MkIs wc F base mb bt ct m vb vp vi):=HM1.out.below hb;have HX2:Hid (OrdBx w wc mb p):=HX.out.below hb;have HB2:Hid (Below w.heap.size w wc):=aD0 HB.out hb;clear hb HX HB HM1 HSS;cases hta:dV0 m.ph p.kind with
       | false=>
        have E1:Hid (ordN m o=6):=by show _=_;rw [HD3.out,if_pos hta]
        clear hta;go_wp2_with fail;go_ret2;obtain ⟨r1,r2,r3⟩:=STAY.out _ HB2.out (by rw [E1.out];decide);exact ⟨.slice none 0 0,vb,vp,vi,by rw [E1.out];rfl,r1,r2,r3⟩
       | true=>
        have HD4:Hid (ordN m o=(if p.id∈m.I then 9 else if 100≤m.L.length+m.P.length then 12 else 0)):=by
         show _=_;rw [HD3.out,if_neg (by rw [hta];decide)]
        clear HD3 hta;have y9:wc.cell? ⟨w.heap.size,0,none⟩=some (.pointer (some ⟨mb,0,none⟩)):=aA0 (j:=0) HX2.out.ptr rfl;have y0:wc.cell? ⟨w.heap.size+1,0,none⟩=some (.int .i64 p.id):=aA0 (j:=0) HX2.out.box rfl;have c9:wc.cell? ⟨mb,9,none⟩=some vi:=aA0 (j:=9) HM.out.box rfl;obtain ⟨ai,ci,rfl,_,_⟩:=aW0 HM.out.ids;go_wp2_with fail;go_loop [49] (fun u=>∃k:Nat,k≤m.I.length∧u=.int .i64 k∧(p.id∈m.I→p.id∈m.I.drop k)) (fun u=>m.I.length - (intOf u).toNat)
        case atStart=>exact ⟨0,Nat.zero_le _,rfl,fun e=>e⟩
        case round=>
         obtain ⟨k,hk,rfl,hmem⟩:=hrel;have HMEM:Hid (p.id∈m.I→p.id∈m.I.drop k):=hmem;clear hmem
         by_cases hk1:k<m.I.length
         ·obtain ⟨g,cap',hv,d0⟩:=rR1 HM.out.ids hk1;simp only [Value.slice.injEq,true_and] at hv;obtain ⟨rfl,rfl⟩:=hv
          by_cases hx:iAt m.I k=p.id
          ·have E1:Hid (ordN m o=9):=by show _=_;rw [HD4.out,if_pos (by rw [←hx];exact pF1 hk1)]
           rw [hx] at d0;clear hx;go_wp2_with fail;go_ret2;obtain ⟨r1,r2,r3⟩:=STAY.out _ HB2.out (by rw [E1.out];decide);exact ⟨.slice none 0 0,by rw [E1.out];rfl,r1,⟨vb,vp,_,r2⟩,r3⟩
          ·have hxb:(iAt m.I k == p.id)=false:=beq_eq_false_iff_ne.2 hx
           have HNX:Hid (p.id∈m.I→p.id∈m.I.drop (k+1)):=fun e=>by
            have:=HMEM.out e;rw [pE1 hk1] at this;rcases List.mem_cons.1 this with e1 | e1
            ·exact absurd e1.symm hx
            ·exact e1
           clear hx;go_wp2_with fail;go_round
           case rel=>exact ⟨k+1,hk1,by go_num,HNX.out⟩
           case measure=>first | (simp [intOf];omega) | (show m.I.length - (k+1)<m.I.length - k;omega) | omega
         ·have HD5:Hid (ordN m o=(if 100≤m.L.length+m.P.length then 12 else 0)):=by
           show _=_;rw [HD4.out,if_neg (fun e=>by have:=HMEM.out e;rw [List.drop_eq_nil_of_le (by omega)] at this;cases this)]
          clear HD4 HMEM c9 y9 y0;go_upto_region 15 with fail;have y9:wc.cell? ⟨w.heap.size,0,none⟩=some (.pointer (some ⟨mb,0,none⟩)):=aA0 (j:=0) HX2.out.ptr rfl;obtain ⟨ab,cb,hvb,_,_⟩:=aW0 HM.out.bk;obtain ⟨ap,cp,hvp,_,_⟩:=aW0 HM.out.pk;have c7:wc.cell? ⟨mb,7,none⟩=some (.slice ab m.L.length cb):=by rw [←hvb];exact aA0 (j:=7) HM.out.box rfl
          have c8:wc.cell? ⟨mb,8,none⟩=some (.slice ap m.P.length cp):=by rw [←hvp];exact aA0 (j:=8) HM.out.box rfl
          have wl:IntKind.i64.wrap ((m.L.length:Int)+(m.P.length:Int))=(m.L.length:Int)+(m.P.length:Int):=IntWalk.i64_in _ (by omega);clear hvb hvp;generalize wc=wd at HX2 HB2 HM y9 c7 c8 ⊢;go_cut [70] from 58 to 70 (fun u wc=>u=.bool (decide (100≤(m.L.length:Int)+(m.P.length:Int)))∧Below wd.heap.size wd wc)
          case first=>
           go_region
           all_goals go_wp2_with fail
           all_goals go_meet
           all_goals exact ⟨rfl,(Below.refl _ _).drew⟩
          case rest=>
           obtain ⟨rfl,hb⟩:=hcut;have HM3:Hid (MkIs wc F base mb bt ct m vb vp (.slice ai m.I.length ci)):=HM.out.below hb;have HX3:Hid (OrdBx w wc mb p):=HX2.out.below hb;have HB3:Hid (Below w.heap.size w wc):=aD0 HB2.out hb;clear hb y9 c7 c8 wl HM HX2 HB2
           by_cases hf:100≤m.L.length+m.P.length
           ·rw [show decide (100≤(m.L.length:Int)+(m.P.length:Int))=true from decide_eq_true (by omega)];have E1:Hid (ordN m o=12):=by show _=_;rw [HD5.out,if_pos hf]
            clear hf;go_wp2_with fail;go_ret2;obtain ⟨r1,r2,r3⟩:=STAY.out _ HB3.out (by rw [E1.out];decide)
            first
             | exact ⟨.slice none 0 0,by rw [E1.out];rfl,r1,⟨vb,vp,_,r2⟩,r3⟩
             | exact ⟨.slice none 0 0,vb,vp,_,by rw [E1.out];rfl,r1,r2,r3⟩
           ·rw [show decide (100≤(m.L.length:Int)+(m.P.length:Int))=false from decide_eq_false (by omega)];have E0:Hid (ordN m o=0):=by show _=_;rw [HD5.out,if_neg hf]
            have HE0:Hid _:=HE.out E0.out;go_upto_region 17 with fail;obtain ⟨iI,hiI,hI0,hI1,hI2⟩:=info_parts Tryz.infoInt;generalize wc=we at HM3 HX3 HB3 ⊢;have y9:we.cell? ⟨w.heap.size,0,none⟩=some (.pointer (some ⟨mb,0,none⟩)):=aA0 (j:=0) HX3.out.ptr rfl;have y0:we.cell? ⟨w.heap.size+1,0,none⟩=some (.int .i64 p.id):=aA0 (j:=0) HX3.out.box rfl;have c9:we.cell? ⟨mb,9,none⟩=some (.slice ai m.I.length ci):=aA0 (j:=9) HM3.out.box rfl;have le0:w.heap.size<we.heap.size:=lt_of_block HX3.out.ptr;have le1:w.heap.size+1<we.heap.size:=lt_of_block HX3.out.box;have le2:mb<we.heap.size:=by omega
            have hbe:base≤we.heap.size:=by omega
            have HS0:Hid (∀V,Below we.heap.size we V→V.cell? ⟨w.heap.size,0,none⟩=some (.pointer (some ⟨mb,0,none⟩))∧V.cell? ⟨w.heap.size+1,0,none⟩=some (.int .i64 p.id)∧V.cell? ⟨mb,9,none⟩=some (.slice ai m.I.length ci)):=fun V hV=>⟨(hV.cell (p:=⟨w.heap.size,0,none⟩) le0).trans y9,(hV.cell (p:=⟨w.heap.size+1,0,none⟩) le1).trans y0,(hV.cell (p:=⟨mb,9,none⟩) le2).trans c9⟩
            clear y9 y0 c9;refine bX0 (fun _ w'=>w'.cell? ⟨w.heap.size,0,none⟩=some (.pointer (some ⟨mb,0,none⟩))∧w'.cell? ⟨w.heap.size+1,0,none⟩=some (.int .i64 p.id)∧w'.cell? ⟨mb,9,none⟩=some (.slice ai m.I.length ci)) (fun _ i=>i == 11) (by kernel_rfl) (fun _=>HS0.out _ (Below.refl _ _).drew) (fun hHeld=>?_);refine tkM7 0 (i:=0) (v:=?_) rfl (by kernel_rfl) (fun _ _ _ h=>h) (by rfl) ?_ (hHeld 0) ?_;rotate_left
            ·intro w hSw;try simp only [lateS_zero] at hSw
             try dsimp only at hSw
             go_simp;try rfl
            refine tkM7 0 (i:=1) (v:=?_) rfl (by kernel_rfl) (fun _ _ _ h=>h) (by rfl) ?_ (hHeld 0) ?_;rotate_left
            ·intro w hSw;try simp only [lateS_zero] at hSw
             try dsimp only at hSw
             go_simp;try rfl
            refine tkM7 0 (i:=2) (v:=?_) rfl (by kernel_rfl) (fun _ _ _ h=>h) (by rfl) ?_ (hHeld 0) ?_;rotate_left
            ·intro w hSw;try simp only [lateS_zero] at hSw
             try dsimp only at hSw
             go_simp;try rfl
            refine tkM7 0 (i:=3) (v:=?_) rfl (by kernel_rfl) (fun _ _ _ h=>h) (by rfl) ?_ (hHeld 0) ?_;rotate_left
            ·intro w hSw;try simp only [lateS_zero] at hSw
             try dsimp only at hSw
             go_simp;try rfl
            refine tkM7 0 (i:=4) (v:=?_) rfl (by kernel_rfl) (fun _ _ _ h=>h) (by rfl) ?_ (hHeld 0) ?_;rotate_left
            ·intro w hSw;try simp only [lateS_zero] at hSw
             try dsimp only at hSw
             go_simp;try rfl
            refine tkM7 0 (i:=5) (v:=?_) rfl (by kernel_rfl) (fun _ _ _ h=>h) (by rfl) ?_ (hHeld 0) ?_;rotate_left
            ·intro w hSw;try simp only [lateS_zero] at hSw
             try dsimp only at hSw
             go_simp;try rfl
            refine tkM7 0 (i:=6) (v:=?_) rfl (by kernel_rfl) (fun _ _ _ h=>h) (by rfl) ?_ (hHeld 0) ?_;rotate_left
            ·intro w hSw;try simp only [lateS_zero] at hSw
             try dsimp only at hSw
             go_simp;try rfl
            refine aM0 (i:=7) (by kernel_rfl) rfl (fun K hK=>?_);go_simp;refine hK.out _ _ (fun _ _ _=>HS0.out _ (bel1 _ _).drew) ?_;clear hK K;have HB7:Hid (Below we.heap.size we (we.alloc (.cells #[.int .i64 p.id] 3)).drew):=(bel1 _ _).drew;have hx7:(we.alloc (.cells #[.int .i64 p.id] 3)).drew.heap[we.heap.size]? = some (.cells #[.int .i64 p.id] 3 (0,0)):=aC0 (heap_alloc_new we _) (Below.refl _ _).drew lR7;generalize (we.alloc (.cells #[.int .i64 p.id] 3)).drew=wa at HB7 hx7 ⊢;refine aM0 (i:=8) (by kernel_rfl) rfl (fun K hK=>?_);refine pD1 rfl (.tmp 75) (.tmp 78) 65 rfl base 3 iI (.int .i64 0) 1 8 Tryz.underlying65 hiI hI0 hI1 hI2 rfl (by decide) (.slice ai m.I.length ci) m.I.length (nV m.I) rfl (aO0 HM3.out.ids HB7.out lR7) ⟨we.heap.size,0,none⟩ 1 1 [.int .i64 p.id] rfl rfl (World.news_of_block (cs:=#[.int .i64 p.id]) (t:=3) (fr:=(0,0)) hx7) (by simp [Value.oneCell']) (by unfold maxLen;omega) (by omega) (Nat.le_trans hbe HB7.out.size) ?_;intro v1 w1 ho1 hg1 hn1;obtain ⟨a1,c1,rfl,_,_⟩:=aW0 ho1;obtain ⟨hx1,hx2⟩:=HM3.out.grew HB7.out hg1;have hx3:=HX3.out.outI hx2 HVI.out;have z9:w1.cell? ⟨mb,9,none⟩=some (.slice ai m.I.length ci):=aA0 (j:=9) hx1 rfl;have zf:=aB0 (j:=9) hx1
            have HNW:Hid (∀j,(Value.slice a1 (m.I.length+1) c1).ownBlock=some j→¬F j):=fun j hj e=>by
             have hlt:=HM3.out.lim j e;rcases hn1 j hj with e1 | e1
             ·exact HM3.out.fari j e1 e
             ·have:=HB7.out.size;omega
            refine hK.out _ _ (fun _ _ _=>⟨aA0 (j:=0) hx3.ptr rfl,aA0 (j:=0) hx3.box rfl,z9⟩) ?_;clear hK K;have HT1:Hid _:=HM3.out.took hx2 ho1 hbt HNW.out;have HT2:Hid (OrdBx w w1 mb p):=hx3;refine puM7 (i:=9) (v:=?_) rfl (by kernel_rfl) (fun _ _ _ h=>h) (by rfl) ?_ ?_;rotate_left
            ·intro w;go_simp;try rfl
            refine puM7 (i:=10) (v:=?_) rfl (by kernel_rfl) (fun _ _ _ h=>h) (by rfl) ?_ ?_;rotate_left
            ·intro w;go_simp;try rfl
            refine aM0 (i:=11) (by kernel_rfl) rfl (fun K hK=>?_);go_simp;refine hK.out _ _ (fun _ h=>by cases h) ?_;clear hK K;refine bI0 (by kernel_rfl) ?_ _;have HM4:Hid (MkIs (w1.setCell ⟨mb,9,none⟩ (.slice a1 (m.I.length+1) c1)) F base mb bt ct { m with I:=m.I++[p.id] } vb vp (.slice a1 (m.I.length+1) c1)):=HT1.out.1;have HX4:Hid (OrdBx w (w1.setCell ⟨mb,9,none⟩ (.slice a1 (m.I.length+1) c1)) mb p):=HT2.out.out (aQ0 _ ⟨mb,9,none⟩ _) hmb;have HO4:Hid (Out (inM mb (.slice ai m.I.length ci)) w (w1.setCell ⟨mb,9,none⟩ (.slice a1 (m.I.length+1) c1))):=bE0 (Out.of_below HB3.out lR7) HT1.out.2;generalize w1.setCell ⟨mb,9,none⟩ (.slice a1 (m.I.length+1) c1)=wc at HM4 HX4 HO4 ⊢;clear HT1 HT2 HNW z9 zf hx1 hx2 hx3 hg1 ho1 hn1 HB7 hx7 HS0 hHeld le0 le1 le2 hbe hiI hI0 hI1 hI2 HM3 HX3 HB3 HD5 HE STAY;generalize (Value.slice a1 (m.I.length+1) c1)=vi4 at HM4 ⊢;generalize hm5:({ m with I:=m.I++[p.id] }:Mkt)=m4 at HM4 HE0;have hL4:m4.L.length≤100:=by rw [←hm5];exact hL
            have HK4:Hid (LOk m4.L):=by rw [←hm5];exact HK.out
            have hP4:m4.P.length≤100:=by rw [←hm5];exact hP
            have hr4:0<m4.rs.length:=by rw [←hm5];exact hr
            have hn4:0≤m4.now∧m4.now≤1000000000000:=by rw [←hm5];exact hn
            have ht4:0≤m4.ti∧m4.ti≤1000000000000:=by rw [←hm5];exact ht
            have hb4:base≤wc.heap.size:=Nat.le_trans hbs HO4.out.size;have c10:wc.cell? ⟨mb,10,none⟩=some (.int .i64 m4.ph):=aA0 (j:=10) HM4.out.box rfl;have y9:wc.cell? ⟨w.heap.size,0,none⟩=some (.pointer (some ⟨mb,0,none⟩)):=aA0 (j:=0) HX4.out.ptr rfl;have y0:wc.cell? ⟨w.heap.size+1,0,none⟩=some (.int .i64 p.id):=aA0 (j:=0) HX4.out.box rfl;have y1:wc.cell? ⟨w.heap.size+1,1,none⟩=some (.int .i64 p.side):=aA0 (j:=1) HX4.out.box rfl;have y2:wc.cell? ⟨w.heap.size+1,2,none⟩=some (.int .i64 p.kind):=aA0 (j:=2) HX4.out.box rfl;have y3:wc.cell? ⟨w.heap.size+1,3,none⟩=some (.int .i64 p.price):=aA0 (j:=3) HX4.out.box rfl;have y4:wc.cell? ⟨w.heap.size+1,4,none⟩=some (.int .i64 p.qty):=aA0 (j:=4) HX4.out.box rfl;clear hm5 hL HK hP hr hn ht HVI hf hk hk1 hI;generalize wc=wf at HM4 HX4 HO4 hb4 c10 y9 y0 y1 y2 y3 y4 ⊢
            by_cases hpk:p.kind=4∧m4.ph≠5
            ·obtain ⟨hk4,h5⟩:=hpk;have HN:Hid (eO0 m4 p=([],{ m4 with P:=m4.P++[p] })):=by show _=_;unfold eO0;rw [if_pos ⟨hk4,h5⟩]
             have e4:(p.kind == 4)=true:=beq_iff_eq.2 hk4;have e5:(m4.ph == 5)=false:=beq_eq_false_iff_ne.2 h5;have n5:(m4.ph != 5)=true:=by simpa [bne] using e5
             clear hk4 h5;obtain ⟨i0,hi0,hz0,hz1,hz2⟩:=info_parts Tryz.infoOrd;obtain ⟨ap,cp,hvp,_,_⟩:=aW0 HM4.out.pk;subst hvp;go_upto_region 19 with fail;have HA2:Hid (BookIs wf base (spP F mb bt ct m4 vb (.slice ap m4.P.length cp) vi4) (.slice ap m4.P.length cp) m4.P):=HM4.out.wait;have c8:wf.cell? ⟨mb,8,none⟩=some (.slice ap m4.P.length cp):=HA2.out.cell;have f8:wf.frozen? ⟨mb,8,none⟩=false:=HA2.out.free;have lb:mb<wf.heap.size:=lt_of_block HM4.out.box;have lx:w.heap.size+1<wf.heap.size:=lt_of_block HX4.out.box;have hbs2:base≤wf.heap.size:=hb4;have lx0:w.heap.size<wf.heap.size:=by omega
             have q63:0+m4.P.length≤maxLen:=by unfold maxLen;omega
             have q64:m4.P.length+1≤maxLen:=by unfold maxLen;omega
             generalize wf=wd at HA2 HM4 HX4 HO4 c8 f8 lb lx lx0 hbs2 hb4 c10 y9 y0 y1 y2 y3 y4 ⊢;go_cut [101] from 92 to 103 (fun _ wc=>∃v',BookIs wc base (spP F mb bt ct m4 vb (.slice ap m4.P.length cp) vi4) v' (m4.P++[p])∧Out (·=mb) wd wc)
             case first=>
              have HSS:Hid (∀V,Below wd.heap.size wd V→(fun w'=>w'.cell? ⟨w.heap.size,0,none⟩=some (.pointer (some ⟨mb,0,none⟩))∧w'.cell? ⟨w.heap.size+1,0,none⟩=some (.int .i64 p.id)∧w'.cell? ⟨w.heap.size+1,1,none⟩=some (.int .i64 p.side)∧w'.cell? ⟨w.heap.size+1,2,none⟩=some (.int .i64 p.kind)∧w'.cell? ⟨w.heap.size+1,3,none⟩=some (.int .i64 p.price)∧w'.cell? ⟨w.heap.size+1,4,none⟩=some (.int .i64 p.qty)∧w'.cell? ⟨mb,8,none⟩=some (.slice ap m4.P.length cp)) V):=fun V hV=>⟨(hV.cell (p:=⟨w.heap.size,0,none⟩) lx0).trans y9,(hV.cell (p:=⟨w.heap.size+1,0,none⟩) lx).trans y0,(hV.cell (p:=⟨w.heap.size+1,1,none⟩) lx).trans y1,(hV.cell (p:=⟨w.heap.size+1,2,none⟩) lx).trans y2,(hV.cell (p:=⟨w.heap.size+1,3,none⟩) lx).trans y3,(hV.cell (p:=⟨w.heap.size+1,4,none⟩) lx).trans y4,(hV.cell (p:=⟨mb,8,none⟩) lb).trans c8⟩
              clear y9 y0 y1 y2 y3 y4 c8 f8 c10;refine bX0 (fun _=>fun w'=>w'.cell? ⟨w.heap.size,0,none⟩=some (.pointer (some ⟨mb,0,none⟩))∧w'.cell? ⟨w.heap.size+1,0,none⟩=some (.int .i64 p.id)∧w'.cell? ⟨w.heap.size+1,1,none⟩=some (.int .i64 p.side)∧w'.cell? ⟨w.heap.size+1,2,none⟩=some (.int .i64 p.kind)∧w'.cell? ⟨w.heap.size+1,3,none⟩=some (.int .i64 p.price)∧w'.cell? ⟨w.heap.size+1,4,none⟩=some (.int .i64 p.qty)∧w'.cell? ⟨mb,8,none⟩=some (.slice ap m4.P.length cp)) (fun _ i=>i == 12) (by kernel_rfl) (fun _=>HSS.out _ (Below.refl _ _).drew) (fun hHeld=>?_);have bz:Below wd.heap.size wd wd.drew:=(Below.refl _ _).drew;generalize wd.drew=wz at bz hHeld ⊢;refine tkM7 0 (i:=0) (v:=?_) rfl (by kernel_rfl) (fun _ _ _ h=>h) (by rfl) ?_ (hHeld 0) ?_;rotate_left
              ·intro w hSw;try simp only [lateS_zero] at hSw
               try dsimp only at hSw
               go_simp;try rfl
              refine tkM7 0 (i:=2) (v:=?_) rfl (by kernel_rfl) (fun _ _ _ h=>h) (by rfl) ?_ (hHeld 0) ?_;rotate_left
              ·intro w hSw;try simp only [lateS_zero] at hSw
               try dsimp only at hSw
               go_simp;try rfl
              refine tkM7 0 (i:=3) (v:=?_) rfl (by kernel_rfl) (fun _ _ _ h=>h) (by rfl) ?_ (hHeld 0) ?_;rotate_left
              ·intro w hSw;try simp only [lateS_zero] at hSw
               try dsimp only at hSw
               go_simp;try rfl
              refine tkM7 0 (i:=4) (v:=?_) rfl (by kernel_rfl) (fun _ _ _ h=>h) (by rfl) ?_ (hHeld 0) ?_;rotate_left
              ·intro w hSw;try simp only [lateS_zero] at hSw
               try dsimp only at hSw
               go_simp;try rfl
              refine tkM7 0 (i:=5) (v:=?_) rfl (by kernel_rfl) (fun _ _ _ h=>h) (by rfl) ?_ (hHeld 0) ?_;rotate_left
              ·intro w hSw;try simp only [lateS_zero] at hSw
               try dsimp only at hSw
               go_simp;try rfl
              refine tkM7 0 (i:=7) (v:=?_) rfl (by kernel_rfl) (fun _ _ _ h=>h) (by rfl) ?_ (hHeld 0) ?_;rotate_left
              ·intro w hSw;try simp only [lateS_zero] at hSw
               try dsimp only at hSw
               go_simp;try rfl
              refine dU0 (i:=1) (j:=8) (by kernel_rfl) rfl rfl (fun K hK=>?_) (fun K hK=>?_)
              ·go_simp;refine hK.out _ _ (fun _ _ _=>HSS.out _ (bz.alloc bz.size _)) ?_;clear hK K;have bE:Below wd.heap.size wd (wz.alloc (.cells #[] 41)):=bz.alloc bz.size _;have hE:=heap_alloc_new wz (.cells #[] 41);have sE:wd.heap.size≤wz.heap.size:=bz.size;have gE:=bel1 wz (.cells #[] 41);generalize wz.alloc (.cells #[] 41)=wE at bE hE gE ⊢;refine dU0 (i:=6) (j:=8) (by kernel_rfl) rfl rfl (fun K hK=>?_) (fun K hK=>?_)
               ·refine aV0 _ (by rfl) (.tmp 93) (.tmp 97) 59 (by rfl) base 41 i0 _ 5 40 Tryz.underlying59 hi0 hz0 hz1 hz2 (by rfl) (by omega) _ 0 0 [] (by rfl) (dN0 hE (Nat.le_trans hbs2 sE)) ap m4.P.length cp (oV m4.P) (by rfl) (bR0 m4.P) (Lies.of_row HA2.out.all bE) (gV0 m4.P) q63 (by omega) (Nat.le_trans hbs2 bE.size) ?_;intro gA cA wA hoA hgA hatA hltA;have bA:Below wd.heap.size wd wA:=cH0 bE hgA sE;have kA:wd.heap.size≤gA:=gA0 bE hatA sE;rw [Nat.zero_add,List.nil_append] at hoA;refine hK.out _ _ (fun _ _ _=>HSS.out _ bA) ?_;clear hK K;simp only [Nat.zero_add];refine aM0 (i:=8) (by kernel_rfl) rfl (fun K hK=>?_);go_simp;refine hK.out _ _ (fun _ _ _=>HSS.out _ (bA.alloc bA.size _)) ?_;clear hK K;have bN:Below wd.heap.size wd (wA.alloc (.cells #[.int .i64 p.id,.int .i64 p.side,.int .i64 p.kind,.int .i64 p.price,.int .i64 p.qty] 41)):=bA.alloc bA.size _;have hN:=heap_alloc_new wA (.cells #[.int .i64 p.id,.int .i64 p.side,.int .i64 p.kind,.int .i64 p.price,.int .i64 p.qty] 41);have sN:wd.heap.size≤wA.heap.size:=bA.size;have gN:=bel1 wA (.cells #[.int .i64 p.id,.int .i64 p.side,.int .i64 p.kind,.int .i64 p.price,.int .i64 p.qty] 41);generalize wA.alloc (.cells #[.int .i64 p.id,.int .i64 p.side,.int .i64 p.kind,.int .i64 p.price,.int .i64 p.qty] 41)=wN at bN hN gN ⊢;refine aM0 (i:=9) (by kernel_rfl) rfl (fun K hK=>?_);refine aV0 _ (by rfl) (.tmp 98) (.tmp 100) 59 (by rfl) base 41 i0 _ 5 40 Tryz.underlying59 hi0 hz0 hz1 hz2 (by rfl) (by omega) _ _ _ _ (by rfl) (cB0 (B:=wA.heap.size) hoA gN lR7) _ 1 1 p.vals (by rfl) (by rfl) (Lies.of_one hN) (by simp [Ord.vals,Value.oneCell']) q64 (by omega) (Nat.le_trans hbs2 bN.size) ?_;intro gB cB wB hoB hgB hatB hltB;have BB:Hid (Below wd.heap.size wd wB):=cH0 bN hgB kA;have kB:wd.heap.size≤gB:=gA0 bN hatB kA;have OB:Hid _:=hoB;refine hK.out _ _ (fun _ _ _=>HSS.out _ BB.out) ?_;clear hK K;have xB:=HA2.out.below BB.out lR7;have yB0:wB.cell? ⟨mb,8,none⟩=some (.slice ap m4.P.length cp):=xB.cell;have yB1:wB.frozen? ⟨mb,8,none⟩=false:=xB.free;clear xB;refine puM7 (i:=10) (v:=?_) rfl (by kernel_rfl) (fun _ _ _ h=>h) (by rfl) ?_ ?_;rotate_left
                ·intro w;go_simp;try rfl
                refine puM7 (i:=11) (v:=?_) rfl (by kernel_rfl) (fun _ _ _ h=>h) (by rfl) ?_ ?_;rotate_left
                ·intro w;go_simp;try rfl
                refine aM0 (i:=12) (by kernel_rfl) rfl (fun K hK=>?_);go_simp;refine hK.out _ _ (fun _ h=>by cases h) ?_;clear hK K;refine bI0 (by kernel_rfl) ?_ _;go_wp2_with fail;go_meet;exact ⟨_,iL0 HA2.out (Below.refl _ _) BB.out OB.out kB (by simp) (by rw [cC0];rfl)⟩
               ·go_simp;refine hK.out _ _ (fun _ _ _=>HSS.out _ (bE.alloc bE.size _)) ?_;clear hK K;have bN:Below wd.heap.size wd (wE.alloc (.cells #[.int .i64 p.id,.int .i64 p.side,.int .i64 p.kind,.int .i64 p.price,.int .i64 p.qty] 41)):=bE.alloc bE.size _;have hN:=heap_alloc_new wE (.cells #[.int .i64 p.id,.int .i64 p.side,.int .i64 p.kind,.int .i64 p.price,.int .i64 p.qty] 41);have sN:wd.heap.size≤wE.heap.size:=bE.size;have gN:=bel1 wE (.cells #[.int .i64 p.id,.int .i64 p.side,.int .i64 p.kind,.int .i64 p.price,.int .i64 p.qty] 41);generalize wE.alloc (.cells #[.int .i64 p.id,.int .i64 p.side,.int .i64 p.kind,.int .i64 p.price,.int .i64 p.qty] 41)=wN at bN hN gN ⊢;refine aM0 (i:=6) (by kernel_rfl) rfl (fun K hK=>?_);refine aV0 _ (by rfl) (.tmp 93) (.tmp 97) 59 (by rfl) base 41 i0 _ 5 40 Tryz.underlying59 hi0 hz0 hz1 hz2 (by rfl) (by omega) _ 0 0 [] (by rfl) (dN0 ((gN.block _ (lt_of_block hE)).trans hE) (Nat.le_trans hbs2 sE)) ap m4.P.length cp (oV m4.P) (by rfl) (bR0 m4.P) (Lies.of_row HA2.out.all bN) (gV0 m4.P) q63 (by omega) (Nat.le_trans hbs2 bN.size) ?_;intro gA cA wA hoA hgA hatA hltA;have bA:Below wd.heap.size wd wA:=cH0 bN hgA sE;have kA:wd.heap.size≤gA:=gA0 bN hatA sE;rw [Nat.zero_add,List.nil_append] at hoA;refine hK.out _ _ (fun _ _ _=>HSS.out _ bA) ?_;clear hK K;simp only [Nat.zero_add];refine aM0 (i:=9) (by kernel_rfl) rfl (fun K hK=>?_);refine aV0 _ (by rfl) (.tmp 98) (.tmp 100) 59 (by rfl) base 41 i0 _ 5 40 Tryz.underlying59 hi0 hz0 hz1 hz2 (by rfl) (by omega) _ _ _ _ (by rfl) hoA _ 1 1 p.vals (by rfl) (by rfl) (Lies.of_one ((hgA.block _ (lt_of_block hN) (by have:=lt_of_block hE;intro e;injection e with e;omega)).trans hN)) (by simp [Ord.vals,Value.oneCell']) q64 (by omega) (Nat.le_trans hbs2 bA.size) ?_;intro gB cB wB hoB hgB hatB hltB;have BB:Hid (Below wd.heap.size wd wB):=cH0 bA hgB kA;have kB:wd.heap.size≤gB:=gA0 bA hatB kA;have OB:Hid _:=hoB;refine hK.out _ _ (fun _ _ _=>HSS.out _ BB.out) ?_;clear hK K;have xB:=HA2.out.below BB.out lR7;have yB0:wB.cell? ⟨mb,8,none⟩=some (.slice ap m4.P.length cp):=xB.cell;have yB1:wB.frozen? ⟨mb,8,none⟩=false:=xB.free;clear xB;refine puM7 (i:=10) (v:=?_) rfl (by kernel_rfl) (fun _ _ _ h=>h) (by rfl) ?_ ?_;rotate_left
                ·intro w;go_simp;try rfl
                refine puM7 (i:=11) (v:=?_) rfl (by kernel_rfl) (fun _ _ _ h=>h) (by rfl) ?_ ?_;rotate_left
                ·intro w;go_simp;try rfl
                refine aM0 (i:=12) (by kernel_rfl) rfl (fun K hK=>?_);go_simp;refine hK.out _ _ (fun _ h=>by cases h) ?_;clear hK K;refine bI0 (by kernel_rfl) ?_ _;go_wp2_with fail;go_meet;exact ⟨_,iL0 HA2.out (Below.refl _ _) BB.out OB.out kB (by simp) (by rw [cC0];rfl)⟩
              ·go_simp;refine hK.out _ _ (fun _ _ _=>HSS.out _ (bz.alloc bz.size _)) ?_;clear hK K;have bN:Below wd.heap.size wd (wz.alloc (.cells #[.int .i64 p.id,.int .i64 p.side,.int .i64 p.kind,.int .i64 p.price,.int .i64 p.qty] 41)):=bz.alloc bz.size _;have hN:=heap_alloc_new wz (.cells #[.int .i64 p.id,.int .i64 p.side,.int .i64 p.kind,.int .i64 p.price,.int .i64 p.qty] 41);have sN:wd.heap.size≤wz.heap.size:=bz.size;have gN:=bel1 wz (.cells #[.int .i64 p.id,.int .i64 p.side,.int .i64 p.kind,.int .i64 p.price,.int .i64 p.qty] 41);generalize wz.alloc (.cells #[.int .i64 p.id,.int .i64 p.side,.int .i64 p.kind,.int .i64 p.price,.int .i64 p.qty] 41)=wN at bN hN gN ⊢;refine aM0 (i:=1) (by kernel_rfl) rfl (fun K hK=>?_);go_simp;refine hK.out _ _ (fun _ _ _=>HSS.out _ (bN.alloc bN.size _)) ?_;clear hK K;have bE:Below wd.heap.size wd (wN.alloc (.cells #[] 41)):=bN.alloc bN.size _;have hE:=heap_alloc_new wN (.cells #[] 41);have sE:wd.heap.size≤wN.heap.size:=bN.size;have gE:=bel1 wN (.cells #[] 41);generalize wN.alloc (.cells #[] 41)=wE at bE hE gE ⊢;refine aM0 (i:=6) (by kernel_rfl) rfl (fun K hK=>?_);refine aV0 _ (by rfl) (.tmp 93) (.tmp 97) 59 (by rfl) base 41 i0 _ 5 40 Tryz.underlying59 hi0 hz0 hz1 hz2 (by rfl) (by omega) _ 0 0 [] (by rfl) (dN0 hE (Nat.le_trans hbs2 sE)) ap m4.P.length cp (oV m4.P) (by rfl) (bR0 m4.P) (Lies.of_row HA2.out.all bE) (gV0 m4.P) q63 (by omega) (Nat.le_trans hbs2 bE.size) ?_;intro gA cA wA hoA hgA hatA hltA;have bA:Below wd.heap.size wd wA:=cH0 bE hgA sE;have kA:wd.heap.size≤gA:=gA0 bE hatA sE;rw [Nat.zero_add,List.nil_append] at hoA;refine hK.out _ _ (fun _ _ _=>HSS.out _ bA) ?_;clear hK K;simp only [Nat.zero_add];refine aM0 (i:=9) (by kernel_rfl) rfl (fun K hK=>?_);refine aV0 _ (by rfl) (.tmp 98) (.tmp 100) 59 (by rfl) base 41 i0 _ 5 40 Tryz.underlying59 hi0 hz0 hz1 hz2 (by rfl) (by omega) _ _ _ _ (by rfl) hoA _ 1 1 p.vals (by rfl) (by rfl) (Lies.of_one ((hgA.block _ (Nat.lt_of_lt_of_le (lt_of_block hN) gE.size) (by have:=lt_of_block hN;intro e;injection e with e;omega)).trans ((gE.block _ (lt_of_block hN)).trans hN))) (by simp [Ord.vals,Value.oneCell']) q64 (by omega) (Nat.le_trans hbs2 bA.size) ?_;intro gB cB wB hoB hgB hatB hltB;have BB:Hid (Below wd.heap.size wd wB):=cH0 bA hgB kA;have kB:wd.heap.size≤gB:=gA0 bA hatB kA;have OB:Hid _:=hoB;refine hK.out _ _ (fun _ _ _=>HSS.out _ BB.out) ?_;clear hK K;have xB:=HA2.out.below BB.out lR7;have yB0:wB.cell? ⟨mb,8,none⟩=some (.slice ap m4.P.length cp):=xB.cell;have yB1:wB.frozen? ⟨mb,8,none⟩=false:=xB.free;clear xB;refine puM7 (i:=10) (v:=?_) rfl (by kernel_rfl) (fun _ _ _ h=>h) (by rfl) ?_ ?_;rotate_left
               ·intro w;go_simp;try rfl
               refine puM7 (i:=11) (v:=?_) rfl (by kernel_rfl) (fun _ _ _ h=>h) (by rfl) ?_ ?_;rotate_left
               ·intro w;go_simp;try rfl
               refine aM0 (i:=12) (by kernel_rfl) rfl (fun K hK=>?_);go_simp;refine hK.out _ _ (fun _ h=>by cases h) ?_;clear hK K;refine bI0 (by kernel_rfl) ?_ _;go_wp2_with fail;go_meet;exact ⟨_,iL0 HA2.out (Below.refl _ _) BB.out OB.out kB (by simp) (by rw [cC0];rfl)⟩
             case rest=>
              obtain ⟨v5,h1,h2⟩:=hcut;have HM5:Hid _:=HM4.out.ofWait h1 h2;have HO5:Hid (Out (inM mb (.slice ai m.I.length ci)) w wc):=bE0 HO4.out (qW0 h2);clear h1 h2 c10 y9 y0 y1 y2 y3 y4;go_wp2_with fail;go_ret2;have hfin:ordM m o=([],{ m4 with P:=m4.P++[p] }):=HE0.out.trans HN.out
              first
               | exact ⟨.slice none 0 0,by rw [E0.out];rfl,by rw [hfin];exact World.ownsRow_nil _ _ _ _,⟨vb,v5,vi4,by rw [hfin];exact HM5.out⟩,HO5.out⟩
               | exact ⟨.slice none 0 0,vb,v5,vi4,by rw [E0.out];rfl,by rw [hfin];exact World.ownsRow_nil _ _ _ _,by rw [hfin];exact HM5.out,HO5.out⟩
            ·have HN:Hid (eO0 m4 p=if m4.ph≠3 then ([],{ m4 with L:=addL p m4.L }) else dW0 m4 p):=by show _=_;unfold eO0;rw [if_neg hpk]
             have HG:Hid (p.kind=4→(m4.ph != 5)=false∧(m4.ph == 5)=true):=fun e=>by
              have:m4.ph=5:=Classical.byContradiction fun e2=>hpk ⟨e,e2⟩
              rw [this];exact ⟨rfl,rfl⟩
             clear hpk;go_upto_region 18 with fail;go_cut [91] from 82 to 91 (fun u wc=>u=.bool false∧wc=wf)
             case first=>
              by_cases hk4:p.kind=4
              ·obtain ⟨g1,g2⟩:=HG.out hk4;have e4:(p.kind == 4)=true:=beq_iff_eq.2 hk4;clear hk4;go_wp2_with fail;go_meet;exact ⟨rfl,rfl⟩
              ·have e4:(p.kind == 4)=false:=beq_eq_false_iff_ne.2 hk4;clear hk4;go_wp2_with fail;go_meet;exact ⟨rfl,rfl⟩
             case rest=>
              obtain ⟨rfl,hw⟩:=hcut;subst hw
              by_cases h3:m4.ph=3
              ·have e3:(m4.ph == 3)=true:=beq_iff_eq.2 h3;have n3:(m4.ph != 3)=false:=by rw [h3];rfl
               have HN3:Hid (eO0 m4 p=dW0 m4 p):=by show _=_;rw [HN.out,if_neg (by rw [h3];decide)]
               clear h3;go_upto_region 24 with fail;generalize wc=wd at HM4 HX4 HO4 hb4 c10 y9 y0 y1 y2 y3 y4 ⊢;go_cut [8,9,10] from 114 to 125 (fun u8 u9 u10 wc=>pG1 F w wd base mb bt ct m4 vp vi4 p u8 u9 u10 wc)
               case first=>
                have HSS:Hid (∀V,OrdBx w V mb p→(fun w'=>w'.cell? ⟨w.heap.size,0,none⟩=some (.pointer (some ⟨mb,0,none⟩))∧w'.cell? ⟨w.heap.size+1,0,none⟩=some (.int .i64 p.id)∧w'.cell? ⟨w.heap.size+1,1,none⟩=some (.int .i64 p.side)∧w'.cell? ⟨w.heap.size+1,2,none⟩=some (.int .i64 p.kind)∧w'.cell? ⟨w.heap.size+1,3,none⟩=some (.int .i64 p.price)∧w'.cell? ⟨w.heap.size+1,4,none⟩=some (.int .i64 p.qty)) V):=fun V hV=>⟨aA0 (j:=0) hV.ptr rfl,aA0 (j:=0) hV.box rfl,aA0 (j:=1) hV.box rfl,aA0 (j:=2) hV.box rfl,aA0 (j:=3) hV.box rfl,aA0 (j:=4) hV.box rfl⟩
                clear y9 y0 y1 y2 y3 y4 c10;refine bX0 (fun _=>fun w'=>w'.cell? ⟨w.heap.size,0,none⟩=some (.pointer (some ⟨mb,0,none⟩))∧w'.cell? ⟨w.heap.size+1,0,none⟩=some (.int .i64 p.id)∧w'.cell? ⟨w.heap.size+1,1,none⟩=some (.int .i64 p.side)∧w'.cell? ⟨w.heap.size+1,2,none⟩=some (.int .i64 p.kind)∧w'.cell? ⟨w.heap.size+1,3,none⟩=some (.int .i64 p.price)∧w'.cell? ⟨w.heap.size+1,4,none⟩=some (.int .i64 p.qty)) (fun _ _=>false) (by kernel_rfl) (fun _=>HSS.out _ (HX4.out.below (Below.refl _ _).drew)) (fun hHeld=>?_);have bz:Below wd.heap.size wd wd.drew:=(Below.refl _ _).drew;generalize wd.drew=wz at bz hHeld ⊢;refine tkM7 0 (i:=0) (v:=?_) rfl (by kernel_rfl) (fun _ _ _ h=>h) (by rfl) ?_ (hHeld 0) ?_;rotate_left
                ·intro w hSw;try simp only [lateS_zero] at hSw
                 try dsimp only at hSw
                 go_simp;try rfl
                refine tkM7 0 (i:=1) (v:=?_) rfl (by kernel_rfl) (fun _ _ _ h=>h) (by rfl) ?_ (hHeld 0) ?_;rotate_left
                ·intro w hSw;try simp only [lateS_zero] at hSw
                 try dsimp only at hSw
                 go_simp;try rfl
                refine tkM7 0 (i:=2) (v:=?_) rfl (by kernel_rfl) (fun _ _ _ h=>h) (by rfl) ?_ (hHeld 0) ?_;rotate_left
                ·intro w hSw;try simp only [lateS_zero] at hSw
                 try dsimp only at hSw
                 go_simp;try rfl
                refine tkM7 0 (i:=3) (v:=?_) rfl (by kernel_rfl) (fun _ _ _ h=>h) (by rfl) ?_ (hHeld 0) ?_;rotate_left
                ·intro w hSw;try simp only [lateS_zero] at hSw
                 try dsimp only at hSw
                 go_simp;try rfl
                refine tkM7 0 (i:=4) (v:=?_) rfl (by kernel_rfl) (fun _ _ _ h=>h) (by rfl) ?_ (hHeld 0) ?_;rotate_left
                ·intro w hSw;try simp only [lateS_zero] at hSw
                 try dsimp only at hSw
                 go_simp;try rfl
                refine puM7 (i:=5) (v:=?_) rfl (by kernel_rfl) (fun _ _ _ h=>h) (by rfl) ?_ ?_;rotate_left
                ·intro w;go_simp;try rfl
                refine puM7 (i:=6) (v:=?_) rfl (by kernel_rfl) (fun _ _ _ h=>h) (by rfl) ?_ ?_;rotate_left
                ·intro w;go_simp;try rfl
                refine dU0 (i:=7) (j:=12) (by kernel_rfl) rfl rfl (fun K hK=>?_) (fun K hK=>?_)
                ·go_simp;refine (fA1 F base mb bt ct w.heap.size m4 vb vp vi4 p wz (HM4.out.below bz) (HX4.out.below bz).ptr hL4 HK4.out (Nat.le_trans hb4 bz.size) hr4 HSD.out.1 HRT.out.2.2).mono ?_;rintro e w5 ⟨vf,v5,rfl,hr5,hm5,ho5⟩;have hx5:OrdBx w w5 mb p:=(HX4.out.below bz).out ho5 hmb;refine hK.out _ _ (fun _ _ _=>HSS.out _ hx5) ?_;clear hK K;refine puM7 (i:=8) (v:=?_) rfl (by kernel_rfl) (fun _ _ _ h=>h) (by rfl) ?_ ?_;rotate_left
                 ·intro w;go_simp;try rfl
                 refine puM7 (i:=9) (v:=?_) rfl (by kernel_rfl) (fun _ _ _ h=>h) (by rfl) ?_ ?_;rotate_left
                 ·intro w;go_simp;try rfl
                 refine puM7 (i:=10) (v:=?_) rfl (by kernel_rfl) (fun _ _ _ h=>h) (by rfl) ?_ ?_;rotate_left
                 ·intro w;go_simp;try rfl
                 refine puM7 (i:=11) (v:=?_) rfl (by kernel_rfl) (fun _ _ _ h=>h) (by rfl) ?_ ?_;rotate_left
                 ·intro w;go_simp;try rfl
                 refine aM0 (i:=12) (by kernel_rfl) rfl (fun K hK=>?_);go_simp;refine hK.out _ _ (fun _ _ _=>HSS.out _ (hx5.below (bel1 _ _))) ?_;clear hK K;refine puM7 (i:=13) (v:=?_) rfl (by kernel_rfl) (fun _ _ _ h=>h) (by rfl) ?_ ?_;rotate_left
                 ·intro w;go_simp;try rfl
                 refine aM0 (i:=14) (by kernel_rfl) rfl (fun K hK=>?_);go_simp;refine hK.out _ _ (fun _ _ _=>HSS.out _ (hx5.below (bel1 _ _))) ?_;clear hK K;have HMID:Hid (pG1 F w wd base mb bt ct m4 vp vi4 p vf (.pointer (some ⟨w5.heap.size,0,none⟩)) (.bool (bM0 m4 p).2) (w5.alloc (.cells #[.int .i64 p.id,.int .i64 p.side,.int .i64 p.kind,.int .i64 p.price,.int .i64 (bM0 m4 p).1.q] 41))):=⟨w5.heap.size,v5,rfl,rfl,aO0 (bP0 hr5 (Nat.le_trans HO4.out.size bz.size)) (bel1 _ _) lR7,heap_alloc_new w5 _,Nat.le_trans bz.size ho5.size,hm5.below (bel1 _ _),hx5.below (bel1 _ _),cP0 (bE0 (Out.of_below bz lR7) ho5) _⟩;clear hr5 hm5 ho5 hx5;refine puM7 (i:=15) (v:=?_) rfl (by kernel_rfl) (fun _ _ _ h=>h) (by rfl) ?_ ?_;rotate_left
                 ·intro w;go_simp;try rfl
                 refine bI0 (by kernel_rfl) ?_ _;go_wp2_with fail;go_meet;exact HMID.out
                ·go_simp;refine hK.out _ _ (fun _ _ _=>HSS.out _ ((HX4.out.below bz).below (bel1 _ _))) ?_;clear hK K;have bE:Below wd.heap.size wd (wz.alloc (.cells #[.int .i64 0,.int .i64 0,.int .i64 0,.int .i64 0,.int .i64 0] 41)):=bz.alloc bz.size _;have hE:=heap_alloc_new wz (.cells #[.int .i64 0,.int .i64 0,.int .i64 0,.int .i64 0,.int .i64 0] 41);have sE:wd.heap.size≤wz.heap.size:=bz.size;generalize wz.alloc (.cells #[.int .i64 0,.int .i64 0,.int .i64 0,.int .i64 0,.int .i64 0] 41)=wE at bE hE ⊢;have HBAN:Hid (MkIs wE (fun j=>F j∨j=wz.heap.size) base mb bt ct m4 vb vp vi4):=HM4.out.ban bE sE (lt_of_block hE);refine aM0 (i:=7) (by kernel_rfl) rfl (fun K hK=>?_);go_simp;refine (fA1 (fun j=>F j∨j=wz.heap.size) base mb bt ct w.heap.size m4 vb vp vi4 p wE HBAN.out (HX4.out.below bE).ptr hL4 HK4.out (Nat.le_trans hb4 bE.size) hr4 HSD.out.1 HRT.out.2.2).mono ?_;rintro e w5 ⟨vf,v5,rfl,hr5,hm5,ho5⟩;have hx5:OrdBx w w5 mb p:=(HX4.out.below bE).out ho5 hmb;refine hK.out _ _ (fun _ _ _=>HSS.out _ hx5) ?_;clear hK K;refine puM7 (i:=8) (v:=?_) rfl (by kernel_rfl) (fun _ _ _ h=>h) (by rfl) ?_ ?_;rotate_left
                 ·intro w;go_simp;try rfl
                 refine puM7 (i:=9) (v:=?_) rfl (by kernel_rfl) (fun _ _ _ h=>h) (by rfl) ?_ ?_;rotate_left
                 ·intro w;go_simp;try rfl
                 refine puM7 (i:=10) (v:=?_) rfl (by kernel_rfl) (fun _ _ _ h=>h) (by rfl) ?_ ?_;rotate_left
                 ·intro w;go_simp;try rfl
                 refine puM7 (i:=11) (v:=?_) rfl (by kernel_rfl) (fun _ _ _ h=>h) (by rfl) ?_ ?_;rotate_left
                 ·intro w;go_simp;try rfl
                 refine puM7 (i:=13) (v:=?_) rfl (by kernel_rfl) (fun _ _ _ h=>h) (by rfl) ?_ ?_;rotate_left
                 ·intro w;go_simp;try rfl
                 have hlw:w.heap.size+1<wd.heap.size:=lt_of_block HX4.out.box;have hE5:=aE0 hE ho5 (fun e=>by have e':wz.heap.size=mb:=e;omega);have z0:=aA0 (j:=0) hE5 rfl;have z1:=aA0 (j:=1) hE5 rfl;have z2:=aA0 (j:=2) hE5 rfl;have z3:=aA0 (j:=3) hE5 rfl;have z4:=aA0 (j:=4) hE5 rfl;have x0:=aB0 (j:=0) hE5;have x1:=aB0 (j:=1) hE5;have x2:=aB0 (j:=2) hE5;have x3:=aB0 (j:=3) hE5;have x4:=aB0 (j:=4) hE5;have hbo:=fW0 w5 wz.heap.size (bJ0 p (bM0 m4 p).1.q);have hx6:OrdBx w (boxed w5 wz.heap.size (bJ0 p (bM0 m4 p).1.q)) mb p:=⟨aE0 hx5.ptr hbo (fun e=>by have e':w.heap.size=wz.heap.size:=e;omega),aE0 hx5.box hbo (fun e=>by have e':w.heap.size+1=wz.heap.size:=e;omega)⟩;have HMID:Hid (pG1 F w wd base mb bt ct m4 vp vi4 p vf (.pointer (some ⟨wz.heap.size,0,none⟩)) (.bool (bM0 m4 p).2) (boxed w5 wz.heap.size (bJ0 p (bM0 m4 p).1.q))):=⟨wz.heap.size,v5,rfl,rfl,aI0 (bP0 hr5 (Nat.le_trans HO4.out.size bE.size)) hbo (fun j hj e=>aG0 hr5 hE5 (by decide) (by rw [hj];exact congrArg some e)),jJ0 _ hE5,sE,hm5.unban hbo (by omega) (by omega),hx6,(bE0 (Out.of_below bE lR7) ho5).trans hbo (fun j hj=>Or.inr (by rw [show j=wz.heap.size from hj];exact sE))⟩;have HX6:Hid (OrdBx w (boxed w5 wz.heap.size (bJ0 p (bM0 m4 p).1.q)) mb p):=hx6;clear hr5 hm5 ho5 hx5 hx6 hbo;refine aM0 (i:=14) (by kernel_rfl) rfl (fun K hK=>?_);go_simp;refine hK.out _ _ (fun _ _ _=>HSS.out _ HX6.out) ?_;clear hK K;refine puM7 (i:=15) (v:=?_) rfl (by kernel_rfl) (fun _ _ _ h=>h) (by rfl) ?_ ?_;rotate_left
                 ·intro w;go_simp;try rfl
                 refine bI0 (by kernel_rfl) ?_ _;go_wp2_with fail;go_meet;exact HMID.out
               case rest=>
                obtain ⟨lb,v5,rfl,rfl,hr5,hlb5,hlt5,hm5,hx5,ho5⟩:=hcut;obtain ⟨s,sb,hms⟩:∃s sb,bM0 m4 p=(s,sb):=⟨_,_,rfl⟩;have HTR:Hid (dW0 m4 p=(s.fs,if sb=true then volM { m4 with L:=if 0<s.q∧p.kind≠2 then addL (bJ0 p s.q) s.L else s.L,la:=bW0 m4.la s.ts } else { m4 with L:=if 0<s.q∧p.kind≠2 then addL (bJ0 p s.q) s.L else s.L,la:=bW0 m4.la s.ts })):=by show _=_;unfold dW0;rw [hms]
                have HLL:Hid (s.L.length≤100):=by
                 have h:=xN0 (alM m4) p (aJ0 (3 - p.side) m4.L) ⟨[],m4.L,p.qty,[]⟩;have e:bS0 (alM m4) p (aJ0 (3 - p.side) m4.L) ⟨[],m4.L,p.qty,[]⟩=(s,sb):=hms;rw [e] at h;exact Nat.le_trans h hL4
                rw [hms] at hr5 hlb5 hm5;rw [hms];dsimp only at hr5 hlb5 hm5;dsimp only;have HR5:Hid (wc.ownsRow w.heap.size 115 4 u8 s.fs.length (fV s.fs)):=hr5;have HLB:Hid (wc.heap[lb]? = some (oBox (bJ0 p s.q))):=hlb5;have HM5:Hid (MkIs wc F base mb bt ct { m4 with L:=s.L,la:=bW0 m4.la s.ts } v5 vp vi4):=hm5;have HX5:Hid (OrdBx w wc mb p):=hx5;have HO5:Hid (Out (inM mb (.slice ai m.I.length ci)) w wc):=bE0 HO4.out (qW0 ho5);have HLT:Hid (w.heap.size+1<lb):=Nat.lt_of_lt_of_le (lt_of_block HX4.out.box) hlt5;have z4:wc.cell? ⟨lb,4,none⟩=some (.int .i64 s.q):=aA0 (j:=4) hlb5 rfl;have y2:wc.cell? ⟨w.heap.size+1,2,none⟩=some (.int .i64 p.kind):=aA0 (j:=2) hx5.box rfl;clear hms hr5 hlb5 hm5 hx5 ho5 hlt5 y9 y0 y1 y3 y4 c10;obtain ⟨vf5,hvf⟩:∃vf5 c5,u8=.slice vf5 s.fs.length c5:=by obtain ⟨a,c,e,_,_⟩:=aW0 HR5.out;exact ⟨a,c,e⟩
                obtain ⟨cf5,hvf⟩:=hvf;subst hvf;go_upto_region 25 with fail;go_cut [133] from 126 to 133 (fun u wd'=>u=.bool (decide (0<s.q)&& decide (p.kind≠2))∧wd'=wc)
                case first=>
                 by_cases hq:0<s.q
                 ·have q1:(s.q>0):=hq
                  by_cases hk2:p.kind=2
                  ·have k2:(p.kind != 2)=false:=by rw [hk2];rfl
                   have HB:Hid ((decide (0<s.q)&& decide (p.kind≠2))=false):=by show _=_;rw [hk2];simp
                   clear hk2;go_wp2_with fail;go_meet;exact ⟨by rw [HB.out],rfl⟩
                  ·have k2:(p.kind != 2)=true:=bne_iff_ne.2 hk2;have HB:Hid ((decide (0<s.q)&& decide (p.kind≠2))=true):=by show _=_;rw [decide_eq_true hq,decide_eq_true hk2];rfl
                   clear hk2;go_wp2_with fail;go_meet;exact ⟨by rw [HB.out],rfl⟩
                 ·have q1:¬(s.q>0):=hq;have HB:Hid ((decide (0<s.q)&& decide (p.kind≠2))=false):=by show _=_;rw [decide_eq_false hq];rfl
                  go_wp2_with fail;go_meet;exact ⟨by rw [HB.out],rfl⟩
                case rest=>
                 obtain ⟨rfl,hw⟩:=hcut;subst hw;clear z4 y2;go_upto_if 133 with fail;go_cut [133] from 134 to 138 (fun _ wd'=>∃v',MkIs wd' F base mb bt ct { m4 with L:=if 0<s.q∧p.kind≠2 then addL (bJ0 p s.q) s.L else s.L,la:=bW0 m4.la s.ts } v' vp vi4∧OrdBx w wd' mb p∧Out (fun j=>j=mb) wc wd')
                 case first=>
                  by_cases hc:0<s.q∧p.kind≠2
                  ·rw [show (decide (0<s.q)&& decide (p.kind≠2))=true by rw [decide_eq_true hc.1,decide_eq_true hc.2];rfl];have HC:Hid (0<s.q∧p.kind≠2):=hc;clear hc;go_upto_region 26 with fail;have HSS:Hid (∀V,Below wc.heap.size wc V→(fun w'=>w'.cell? ⟨w.heap.size,0,none⟩=some (.pointer (some ⟨mb,0,none⟩))∧w'.cell? ⟨lb,0,none⟩=some (.int .i64 p.id)∧w'.cell? ⟨lb,1,none⟩=some (.int .i64 p.side)∧w'.cell? ⟨lb,2,none⟩=some (.int .i64 p.kind)∧w'.cell? ⟨lb,3,none⟩=some (.int .i64 p.price)∧w'.cell? ⟨lb,4,none⟩=some (.int .i64 s.q)) V):=fun V hV=>⟨aA0 (j:=0) (HX5.out.below hV).ptr rfl,aA0 (j:=0) (aC0 HLB.out hV lR7) rfl,aA0 (j:=1) (aC0 HLB.out hV lR7) rfl,aA0 (j:=2) (aC0 HLB.out hV lR7) rfl,aA0 (j:=3) (aC0 HLB.out hV lR7) rfl,aA0 (j:=4) (aC0 HLB.out hV lR7) rfl⟩
                   refine bX0 (fun _=>fun w'=>w'.cell? ⟨w.heap.size,0,none⟩=some (.pointer (some ⟨mb,0,none⟩))∧w'.cell? ⟨lb,0,none⟩=some (.int .i64 p.id)∧w'.cell? ⟨lb,1,none⟩=some (.int .i64 p.side)∧w'.cell? ⟨lb,2,none⟩=some (.int .i64 p.kind)∧w'.cell? ⟨lb,3,none⟩=some (.int .i64 p.price)∧w'.cell? ⟨lb,4,none⟩=some (.int .i64 s.q)) (fun _ i=>i == 4) (by kernel_rfl) (fun _=>HSS.out _ (Below.refl _ _).drew) (fun hHeld=>?_);have bz:Below wc.heap.size wc wc.drew:=(Below.refl _ _).drew;generalize wc.drew=wz at bz hHeld ⊢;refine tkM7 0 (i:=0) (v:=?_) rfl (by kernel_rfl) (fun _ _ _ h=>h) (by rfl) ?_ (hHeld 0) ?_;rotate_left
                   ·intro w hSw;try simp only [lateS_zero] at hSw
                    try dsimp only at hSw
                    go_simp;try rfl
                   refine tkM7 0 (i:=1) (v:=?_) rfl (by kernel_rfl) (fun _ _ _ h=>h) (by rfl) ?_ (hHeld 0) ?_;rotate_left
                   ·intro w hSw;try simp only [lateS_zero] at hSw
                    try dsimp only at hSw
                    go_simp;try rfl
                   refine tkM7 0 (i:=2) (v:=?_) rfl (by kernel_rfl) (fun _ _ _ h=>h) (by rfl) ?_ (hHeld 0) ?_;rotate_left
                   ·intro w hSw;try simp only [lateS_zero] at hSw
                    try dsimp only at hSw
                    go_simp;try rfl
                   refine tkM7 0 (i:=3) (v:=?_) rfl (by kernel_rfl) (fun _ _ _ h=>h) (by rfl) ?_ (hHeld 0) ?_;rotate_left
                   ·intro w hSw;try simp only [lateS_zero] at hSw
                    try dsimp only at hSw
                    go_simp;try rfl
                   refine aM0 (i:=4) (by kernel_rfl) rfl (fun K hK=>?_);go_simp;refine (pC1 F base mb bt ct { m4 with L:=s.L,la:=bW0 m4.la s.ts } v5 vp vi4 (bJ0 p s.q) wz (HM5.out.below bz) HLL.out (Nat.le_trans hbs (Nat.le_trans HO5.out.size bz.size))).mono ?_;rintro e w6 ⟨rfl,v6,hm6,ho6⟩;refine hK.out _ _ (fun _ h=>by cases h) ?_;clear hK K;have HM6:Hid (MkIs w6 F base mb bt ct { m4 with L:=addL (bJ0 p s.q) s.L,la:=bW0 m4.la s.ts } v6 vp vi4∧OrdBx w w6 mb p∧Out (fun j=>j=mb) wc w6):=⟨hm6,(HX5.out.below bz).out ho6 hmb,bE0 (Out.of_below bz lR7) ho6⟩;clear hm6 ho6;refine bI0 (by kernel_rfl) ?_ _;go_wp2_with fail;go_meet;exact ⟨v6,by rw [if_pos HC.out];exact HM6.out.1,HM6.out.2⟩
                  ·rw [show (decide (0<s.q)&& decide (p.kind≠2))=false by
                    by_cases h1:0<s.q
                    ·rw [decide_eq_true h1,decide_eq_false (fun e=>hc ⟨h1,e⟩)];rfl
                    ·rw [decide_eq_false h1];rfl]
                   have HC:Hid (¬(0<s.q∧p.kind≠2)):=hc;clear hc;go_wp2_with fail;go_meet;exact ⟨v5,by rw [if_neg HC.out];exact HM5.out,HX5.out,Out.refl _ _⟩
                 case rest=>
                  obtain ⟨v6,hm6,hx6,ho6⟩:=hcut;generalize (if 0<s.q∧p.kind≠2 then addL (bJ0 p s.q) s.L else s.L)=LL at HTR hm6;have HM6:Hid (MkIs wc F base mb bt ct { m4 with L:=LL,la:=bW0 m4.la s.ts } v6 vp vi4):=hm6;have HO6:Hid (Out (inM mb (.slice ai m.I.length ci)) w wc):=bE0 HO5.out (qW0 ho6);have HR6:Hid (wc.ownsRow w.heap.size 115 4 (.slice vf5 s.fs.length cf5) s.fs.length (fV s.fs)):=aI0 HR5.out ho6 (fun j hj e=>aG0 HR5.out HM5.out.box (by decide) (hj.trans (congrArg some e)));have y9:wc.cell? ⟨w.heap.size,0,none⟩=some (.pointer (some ⟨mb,0,none⟩)):=aA0 (j:=0) hx6.ptr rfl;clear hm6 hx6 ho6 HR5 HLB HM5 HX5 HO5;cases sb with
                  | true=>
                   go_wp2_with fail;refine (qV0 F base mb bt ct { m4 with L:=LL,la:=bW0 m4.la s.ts } v6 vp vi4 _ HM6.out hn4 ht4).mono ?_;rintro e w7 ⟨rfl,hm7,ho7⟩;have HM7:Hid (MkIs w7 F base mb bt ct (volM { m4 with L:=LL,la:=bW0 m4.la s.ts }) v6 vp vi4):=hm7;have HO7:Hid (Out (inM mb (.slice ai m.I.length ci)) w w7):=bE0 HO6.out (qW0 ho7);have HR7:Hid (w7.ownsRow w.heap.size 115 4 (.slice vf5 s.fs.length cf5) s.fs.length (fV s.fs)):=aI0 HR6.out ho7 (fun j hj e=>aG0 HR6.out HM6.out.box (by decide) (hj.trans (congrArg some e)));clear hm7 ho7 y9;go_wp2_with fail;go_ret2;have hfin:ordM m o=(s.fs,volM { m4 with L:=LL,la:=bW0 m4.la s.ts }):=HE0.out.trans (HN3.out.trans HTR.out)
                   first
                    | exact ⟨.slice vf5 s.fs.length cf5,by rw [E0.out];rfl,by rw [hfin];exact HR7.out,⟨v6,vp,vi4,by rw [hfin];exact HM7.out⟩,HO7.out⟩
                    | exact ⟨.slice vf5 s.fs.length cf5,v6,vp,vi4,by rw [E0.out];rfl,by rw [hfin];exact HR7.out,by rw [hfin];exact HM7.out,HO7.out⟩
                  | false=>
                   clear y9;go_wp2_with fail;go_ret2;have hfin:ordM m o=(s.fs,{ m4 with L:=LL,la:=bW0 m4.la s.ts }):=HE0.out.trans (HN3.out.trans HTR.out)
                   first
                    | exact ⟨.slice vf5 s.fs.length cf5,by rw [E0.out];rfl,by rw [hfin];exact HR6.out,⟨v6,vp,vi4,by rw [hfin];exact HM6.out⟩,HO6.out⟩
                    | exact ⟨.slice vf5 s.fs.length cf5,v6,vp,vi4,by rw [E0.out];rfl,by rw [hfin];exact HR6.out,by rw [hfin];exact HM6.out,HO6.out⟩
              ·have e3:(m4.ph == 3)=false:=beq_eq_false_iff_ne.2 h3;have n3:(m4.ph != 3)=true:=by simpa [bne] using e3
               have HN3:Hid (eO0 m4 p=([],{ m4 with L:=addL p m4.L })):=by show _=_;rw [HN.out,if_pos h3]
               clear h3;go_upto_region 22 with fail;generalize wc=wd at HM4 HX4 HO4 hb4 c10 y9 y0 y1 y2 y3 y4 ⊢
               have HSS:Hid (∀w',Out (fun j=>j=mb) wd w'→w'.cell? ⟨w.heap.size,0,none⟩=some (.pointer (some ⟨mb,0,none⟩))∧w'.cell? ⟨w.heap.size+1,0,none⟩=some (.int .i64 p.id)∧w'.cell? ⟨w.heap.size+1,1,none⟩=some (.int .i64 p.side)∧w'.cell? ⟨w.heap.size+1,2,none⟩=some (.int .i64 p.kind)∧w'.cell? ⟨w.heap.size+1,3,none⟩=some (.int .i64 p.price)∧w'.cell? ⟨w.heap.size+1,4,none⟩=some (.int .i64 p.qty)∧Out (fun j=>j=mb) wd w'):=fun w' ho=>by
                have hx':=HX4.out.out ho hmb;exact ⟨aA0 (j:=0) hx'.ptr rfl,aA0 (j:=0) hx'.box rfl,aA0 (j:=1) hx'.box rfl,aA0 (j:=2) hx'.box rfl,aA0 (j:=3) hx'.box rfl,aA0 (j:=4) hx'.box rfl,ho⟩
               clear y9 y0 y1 y2 y3 y4;go_cut [113] from 109 to 113 (fun _ wc=>∃v',MkIs wc F base mb bt ct { m4 with L:=addL p m4.L } v' vp vi4∧Out (fun j=>j=mb) wd wc)
               case first=>
                go_region_held3 (fun w'=>w'.cell? ⟨w.heap.size,0,none⟩=some (.pointer (some ⟨mb,0,none⟩))∧w'.cell? ⟨w.heap.size+1,0,none⟩=some (.int .i64 p.id)∧w'.cell? ⟨w.heap.size+1,1,none⟩=some (.int .i64 p.side)∧w'.cell? ⟨w.heap.size+1,2,none⟩=some (.int .i64 p.kind)∧w'.cell? ⟨w.heap.size+1,3,none⟩=some (.int .i64 p.price)∧w'.cell? ⟨w.heap.size+1,4,none⟩=some (.int .i64 p.qty)∧Out (fun j=>j=mb) wd w')
                 ((refine HSS.out _ ?_;(first | exact HO5.out | exact Out.refl _ _ | exact aU0 (Out.refl _ _) | (go_split_ands;assumption))))
                 ((go_at_call 43;refine (pC1 F base mb bt ct m4 vb vp vi4 p wd.drew HM4.out.drew hL4 (by simpa using hb4)).mono ?_;rintro e w5 ⟨rfl,v5,hm5,ho5⟩;have HM5:Hid _:=hm5;have HO5:Hid (Out (fun j=>j=mb) wd w5):=(aU0 (Out.refl _ _)).trans ho5 (Went.refl _ _);clear hm5 ho5))
                all_goals go_wp2_with fail
                all_goals go_meet
                all_goals exact ⟨v5,HM5.out,HO5.out⟩
               case rest=>
                obtain ⟨v5,hm5,ho5⟩:=hcut;have HM5:Hid _:=hm5;have HO5:Hid (Out (inM mb (.slice ai m.I.length ci)) w wc):=bE0 HO4.out (qW0 ho5);clear hm5 ho5 c10;go_wp2_with fail;go_ret2;have hfin:ordM m o=([],{ m4 with L:=addL p m4.L }):=HE0.out.trans HN3.out
                first
                 | exact ⟨.slice none 0 0,by rw [E0.out];rfl,by rw [hfin];exact World.ownsRow_nil _ _ _ _,⟨v5,vp,vi4,by rw [hfin];exact HM5.out⟩,HO5.out⟩
                 | exact ⟨.slice none 0 0,v5,vp,vi4,by rw [E0.out];rfl,by rw [hfin];exact World.ownsRow_nil _ _ _ _,by rw [hfin];exact HM5.out,HO5.out⟩
end Go.Proofs.YtjdkagafdnchhaaGreatDoor
