/- A part of the proof of EnginePlays. -/
import Derived.Test.YtjdkagafdnchhaaGreatDoorPA
import Derived.Test.YtjdkagafdnchhaaGreatDoorPQ
import Derived.Test.YtjdkagafdnchhaaGreatDoorPY
import Derived.Test.YtjdkagafdnchhaaGreatDoorPZ
import Derived.Test.YtjdkagafdnchhaaGreatDoorPX
import Derived.Test.YtjdkagafdnchhaaGreatDoorPG
import Derived.Deep.RegionLaw
import Derived.Test.YtjdkagafdnchhaaGreatDoorPO
import Derived.Test.YtjdkagafdnchhaaGreatDoorPK
namespace Go.Proofs.YtjdkagafdnchhaaGreatDoor
open Go.RowKit Go.Maps
theorem ErrE.is {w:World} {err:Value} {n:Int} (h:ErrE err n):kG0 w err n (-1):=h.elim (fun e=>Or.inl ⟨e.1,e.2,rfl⟩) (fun e=>Or.inr (Or.inl ⟨e.1,rfl⟩))
theorem pZ0 {S:Nat→Prop} {n:Nat} {W W':World} (ho:Out S W W') (hS:∀j,S j→n≤j) (hn:n≤W.heap.size):Below n W W':=
 ⟨ho.os,ho.tape,ho.output,ho.size,fun j hj=>ho.block j (by omega) (fun e=>by have:=hS j e;omega)⟩
structure EpOwn (w:World) (k:EgK) (eb base mb:Nat):Prop where
 ft:∀j,k.foot eb j→w.heap.size≤j
 b:w.heap.size≤base
 m:w.heap.size≤mb
structure EpAt (w W:World) (eb:Nat) (k:EgK) (M1:Mkt) (base mb bt ct:Nat) (M2:Mkt) (vb vp vi:Value):Prop where
 duo:Duo W eb k M1 base mb bt ct M2 vb vp vi
 own:EpOwn w k eb base mb
 bel:Below w.heap.size w W
section
variable {w W W':World} {eb:Nat} {k k':EgK} {M1 M1':Mkt} {base mb bt ct:Nat} {M2 M2':Mkt} {vb vp vi vb' vp' vi':Value}
theorem EpAt.below (h:EpAt w W eb k M1 base mb bt ct M2 vb vp vi) (hb:Below W.heap.size W W'):EpAt w W' eb k M1 base mb bt ct M2 vb vp vi:=⟨h.duo.below hb,h.own,aD0 h.bel hb⟩
theorem EpAt.market (h:EpAt w W eb k M1 base mb bt ct M2 vb vp vi) (hm:MkIs W' (fk k eb) base mb bt ct M2' vb' vp' vi') (ho:Out (inM mb vi) W W'):EpAt w W' eb k M1 base mb bt ct M2' vb' vp' vi':=
 ⟨h.duo.market hm ho,h.own,h.bel.trans (pZ0 ho (fun j hj=>hj.elim (fun e=>by rw [show j=mb from e];exact h.own.m) (fun e=>Nat.le_trans h.own.b (h.duo.mkt.ids.lt j e).1)) h.bel.size)⟩
theorem EpAt.marketM (h:EpAt w W eb k M1 base mb bt ct M2 vb vp vi) (hm:MkIs W' (fk k eb) base mb bt ct M2' vb' vp' vi') (ho:Out (fun j=>j=mb) W W'):EpAt w W' eb k M1 base mb bt ct M2' vb' vp' vi':=h.market hm (qW0 ho)
theorem EpAt.engine (h:EpAt w W eb k M1 base mb bt ct M2 vb vp vi) (hg:EgGo W W' eb k k' M1'):EpAt w W' eb k' M1' base mb bt ct M2 vb vp vi:=
 ⟨h.duo.engine hg,⟨fun j hj=>(hg.2.2.1 j hj).elim (h.own.ft j) (fun e=>Nat.le_trans h.bel.size e),h.own.b,h.own.m⟩,h.bel.trans (pZ0 hg.2.1 h.own.ft h.bel.size)⟩
end
def EpLp (w:World) (base eb mb bt ct i:Nat) (W:World):Prop:=
 ∃(k:EgK) (M:Mkt) (lots side:Int→Int) (vb vp vi:Value),EpAt w W eb k M base mb bt ct M vb vp vi∧DayInv M lots side 0 true∧k.m≤302*i∧M.now≤(i:Int)∧M.I.length≤i
theorem EpLp.mk' {w W:World} {base eb mb bt ct i:Nat} {k:EgK} {M:Mkt} {lots side:Int→Int} {vb vp vi:Value} (h:EpAt w W eb k M base mb bt ct M vb vp vi) (hI:DayInv M lots side 0 true) (h1:k.m≤302*i) (h2:M.now≤(i:Int)) (h3:M.I.length≤i):EpLp w base eb mb bt ct i W:=⟨k,M,lots,side,vb,vp,vi,h,hI,h1,h2,h3⟩
theorem vZ0:∀{rs:List (Int×Int)} {p:Int×Int} {i:Nat},(fH0 p i rs).1=0→fH0 p i rs=(0,-1)
 | [],_,_,_=>rfl
 | r::rs,p,i,h=>by
  unfold fH0 at h ⊢
  by_cases e:rowE p r=0
  ·rw [if_pos e] at h ⊢;exact vZ0 h
  ·rw [if_neg e] at h;exact absurd h e
theorem mI1 {rs:List (Int×Int)} (h:(tabE rs).1=0):tabE rs=(0,-1):=by
 cases rs with
 | nil=>exact absurd h (by decide)
 | cons r rs=>
  rw [kV0] at h ⊢;split
  ·rename_i e;rw [if_pos e] at h;exact absurd h (by decide)
  ·rename_i e;rw [if_neg e] at h;split
   ·rename_i e2;rw [if_pos e2] at h;exact vZ0 h
   ·rename_i e2;rw [if_neg e2] at h;exact absurd h (by decide)
theorem iI1 {rs:List (Int×Int)} {st dy p ti mo:Int} (h:(newE rs st dy p ti mo).1=0):tabE rs=(0,-1)∧jS0 st dy p=true∧(1≤ti∧ti≤1000000)∧(0≤mo∧mo≤10)∧(1≤p∧p≤1000000)∧(0≤st∧st≤10000)∧(0≤dy∧dy≤10000):=by
 unfold newE at h
 by_cases h0:(tabE rs).1≠0
 ·rw [if_pos h0] at h;exact absurd h h0
 ·rw [if_neg h0] at h;have h1:(tabE rs).1=0:=Classical.byContradiction h0
  by_cases h2:jS0 st dy p=true∧kA0 ti mo=true
  ·refine ⟨mI1 h1,h2.1,?_⟩;obtain ⟨g1,g2⟩:=h2;unfold jS0 cF0 inB at g1;unfold kA0 at g2;simp only [Bool.and_eq_true,decide_eq_true_eq] at g1 g2;omega
  ·rw [if_neg h2] at h;exact absurd h (by decide)
theorem tE0 {w w1 w2 wl W':World} {eb:Nat} {k:EgK} {rs:List (Int×Int)} {st dy pr ti mo:Int} {mb cb cc base fb:Nat} (hE:Eg w2 eb k (newM rs st dy pr ti mo)) (hk0:k.m=0) (hft:∀j,k.foot eb j→w1.heap.size≤j) (hw1:w.heap.size≤w1.heap.size) (hI:DayInv (newM rs st dy pr ti mo) (fun _=>0) (fun _=>0) 0 true)
  (hB2:Below w.heap.size w w2) (bl:Below w2.heap.size w2 wl) (ho:Out (fun j=>j=fb) wl W') (hfb:w2.heap.size≤fb) (hmk:wl.heap[mb]? = some (.cells (mkV (.slice (some ⟨cb,0,none⟩) rs.length cc) (newM rs st dy pr ti mo) (.slice none 0 0) (.slice none 0 0) (.slice none 0 0)) 67 (0,0))) (hmb:w2.heap.size≤mb) (h1:mb≠fb)
  (hr:bK0 wl cb 0 rs) (hcb:w2.heap.size≤cb) (h2:cb≠fb) (h3:cb≠mb) (h4:cb<base) (h5:base≤wl.heap.size):EpLp w base eb mb cb cc 0 W':=by
 have s2:=hB2.size
 have eg:=(hE.below bl).out ho (fun j hj e=>by
  have e1:j=fb:=e;have e2:j<w2.heap.size:=fS1 hE hj;omega)
 have mk:MkIs W' (fk k eb) base mb cb cc (newM rs st dy pr ti mo) (.slice none 0 0) (.slice none 0 0) (.slice none 0 0):=⟨aE0 hmk ho h1,eI0 hr ho h2,h3,World.ownsRow_nil _ _ _ _,World.ownsRow_nil _ _ _ _,World.ownsRow_nil _ _ _ _,fun j hj=>fS1 eg hj,(fun _ hj=>by cases hj),(fun _ hj=>by cases hj),(fun _ hj=>by cases hj)⟩;exact ⟨k,_,_,_,_,_,_,⟨⟨eg,mk,(fun e=>by have:=fS1 hE e;omega),(fun e=>by have:=fS1 hE e;omega),Nat.le_trans h5 ho.size,h4⟩,⟨fun j hj=>Nat.le_trans hw1 (hft j hj),by omega,by omega⟩,(aD0 hB2 bl).trans (pZ0 ho (fun j hj=>by have e1:j=fb:=hj;omega) (Nat.le_trans s2 bl.size))⟩,hI,by omega,Int.le_refl _,lR7⟩
end Go.Proofs.YtjdkagafdnchhaaGreatDoor
namespace Go.Proofs.YtjdkagafdnchhaaGreatDoor
open Go.RowKit
theorem qA0 {P:Program} {ops:Array Oper} {o:Oper} {a:Act} {w:World} {K:Act→World→Prop} {Q:Exit→Act→World→Prop} {E:Prop}
  (hg:o.guard=none) (s x:Operand) (t:TypeId) (hop:o.op=Op.call { callee:=Callee.builtin Builtin.append,args:=#[s,x],argTypes:=#[t,t] })
  (base:Nat) (e:TypeId) (i:TypeInfo) (z:Value) (size bytes:Nat) (ht:P.underlying t=some (.slice e)) (hi:P.info? e=some i) (hz:i.zero=some z)
  (hsize:i.size=size) (hby:i.bytes=bytes) (hzs:z.cells.size=size) (hsz:0<size)
  (v:Value) (n:Nat) (xs:List Value) (hs:a.eval s=v) (hown:w.ownsRow base e size v n xs)
  (ad:Addr) (m c:Nat) (news:List Value) (hx:a.eval x=.slice (some ad) m c) (hl:news.length=m*size) (hnews:∀j u,news[j]? = some u→w.cell? (ad.add j)=some u) (h1:∀u∈news,u.oneCell'=true)
  (h63:n+m≤maxLen) (hbytes:(n+m)*bytes≤140737488355328) (hbase:base≤w.heap.size)
  (h:∀v' w',w'.ownsRow base e size v' (n+m) (xs++news)→w.grownBy w' v.ownBlock→K (a.put o.dst v') w'):
  if Region.wanted o (yielded ops a.tmps)=true then Oper.wp P o a w K Q else E:=by
 have hw:Region.wanted o (yielded ops a.tmps)=true:=by simp [Region.wanted,hg]
 rw [if_pos hw];exact wp_append_own w s x t hop base e i z size bytes ht hi hz hsize hby hzs hsz v n xs hs hown ad m c news hx hl hnews h1 h63 hbytes hbase (fun v' w' h2 h3 _=>h v' w' h2 h3)
theorem yL0 (a b:List (Int×Int)):flat (a++b)=flat a++flat b:=by
 induction a with
 | nil=>rfl
 | cons r a ih=>simp [flat,ih]
theorem wA0 {rs:List (Int×Int)} {k:Nat} (h:k<rs.length):flat (rs.take k)++[.int .i64 (bF0 rs k).1,.int .i64 (bF0 rs k).2]=flat (rs.take (k+1)):=by
 rw [List.take_succ_eq_append_getElem h,yL0];simp [flat,bF0,h]
theorem aN1 {w:World} {base:Nat} {e:TypeId} {size:Nat} {v:Value} {n:Nat} {xs:List Value} (h:w.ownsRow base e size v n xs):∀k,v.ownBlock=some k→base≤k:=by
 intro k hk;obtain ⟨_,⟨rfl,_⟩ | ⟨g,c,cur,rfl,hg,_⟩⟩:=h
 ·cases hk
 ·cases hk;exact hg
theorem iJ1 {w:World} {base:Nat} {e:TypeId} {v:Value} {n:Nat} {rs:List (Int×Int)} (h:w.ownsRow base e 2 v n (flat rs)) (hn:0<n):∃cb c:Nat,v=.slice (some ⟨cb,0,none⟩) n c∧bK0 w cb 0 rs:=by
 obtain ⟨_,⟨_,h0⟩ | ⟨g,c,cur,rfl,_,hh,_,_,_,hct⟩⟩:=h
 ·omega
 ·refine ⟨g,c,rfl,fun j u hj=>?_⟩
  have h3:cur.toList[j]? = some u:=by
   rw [←hct,List.getElem?_take] at hj;split at hj
   ·exact hj
   ·cases hj
  have h4:cur[j]? = some u:=by rw [←h3];simp
  simp [World.cell?,hh,h4]
theorem Tryz.infoRef:(Tryz.prog.info? 103).map (fun i=>(i.zero,i.size,i.bytes))=some (some (.agg #[.int .i64 0,.int .i64 0]),2,16):=by kernel_rfl
set_option maxHeartbeats 400000 in
theorem rJ0 (a:Option Addr) (cap:Nat) (w:World):Calls Tryz.prog 7 #[.slice a 0 cap] w fun e w'=>e=.returned (.slice none 0 0)∧w'=w:=by
 go_enter Tryz.func7,Tryz.ntmps7;go_wp2_with fail;refine wp_loop_rounds 1 ?_;rw [rounds_succ];go_wp2;go_ret;exact ⟨rfl,rfl⟩
set_option maxRecDepth 4000 in
set_option maxHeartbeats 1000000 in
theorem aO1 (b off cap:Nat) (rs:List (Int×Int)) (w:World) (h:bK0 w b off rs) (hne:0<rs.length) (hlen:rs.length≤60):
  Calls Tryz.prog 7 #[.slice (some ⟨b,off,none⟩) rs.length cap] w
   fun e w'=>∃cb c:Nat,e=.returned (.slice (some ⟨cb,0,none⟩) rs.length c)∧bK0 w' cb 0 rs∧(w.heap.size≤cb∧cb<w'.heap.size)∧Below w.heap.size w w':=by
 obtain ⟨i0,hi,hz0,hz1,hz2⟩:=info_parts Tryz.infoRef;have HR:Hid (bK0 w b off rs):=h;clear h;go_enter Tryz.func7,Tryz.ntmps7;go_wp2_with fail;go_loopw [3,4] (fun v i wr=>∃k:Nat,k≤rs.length∧i=.int .i64 k∧wr.ownsRow w.heap.size 103 2 v k (flat (rs.take k))∧Below w.heap.size w wr) (fun _ i _=>rs.length - (intOf i).toNat)
 case atStart=>exact ⟨0,Nat.zero_le _,rfl,World.ownsRow_nil _ _ _ _,Below.refl _ _⟩
 case round=>
  obtain ⟨k,hk,rfl,hown,hb⟩:=hrel;have HO:Hid (wr.ownsRow w.heap.size 103 2 u3 k (flat (rs.take k))):=hown;have HB:Hid (Below w.heap.size w wr):=hb;clear hown hb;go_wp2_with fail
  ·have hk1:k<rs.length:=by omega
   obtain ⟨c0,c1⟩:=(HR.out.below HB.out lR7).row hk1
   have c2:∀W:World,W.heap.size=wr.heap.size→∀j u,[Value.int .i64 (bF0 rs k).1,.int .i64 (bF0 rs k).2][j]? = some u→(W.alloc (.cells #[.int .i64 (bF0 rs k).1,.int .i64 (bF0 rs k).2] 103)).cell? ((⟨wr.heap.size,0,none⟩:Addr).add j)=some u:=fun W hW j u hj=>by
    rw [Addr.add_lit,Nat.zero_add,←hW,World.cell?_alloc_at _ _ _ _ rfl];simpa using hj
   have C3:Hid _:=c2 wr rfl;clear c2;go_region_law (refine qA0 rfl _ _ 37 rfl w.heap.size 103 i0 (.agg #[.int .i64 0,.int .i64 0]) 2 16 Tryz.underlying37 hi hz0 hz1 hz2 rfl (by decide) u3 k (flat (rs.take k)) rfl (HO.out.alloc _) ⟨wr.heap.size,0,none⟩ 1 1 [.int .i64 (bF0 rs k).1,.int .i64 (bF0 rs k).2] rfl rfl C3.out (by simp [Value.oneCell']) (by unfold maxLen;omega) (by omega) (Nat.le_trans HB.out.size (by simp)) ?_;intro v1 w1 ho1 hg1)
   all_goals go_wp2
   all_goals go_roundw
   case rel=>exact ⟨k+1,hk1,by go_num,wA0 hk1 ▸ ho1,(HB.out.alloc HB.out.size _).drew.grown hg1 (Nat.le_trans HB.out.size (by simp)) (aN1 HO.out)⟩
   case measure=>first | (simp [intOf];omega) | omega
   case rel=>exact ⟨k+1,hk1,by go_num,wA0 hk1 ▸ ho1,(HB.out.alloc HB.out.size _).drew.grown hg1 (Nat.le_trans HB.out.size (by simp)) (aN1 HO.out)⟩
   case measure=>first | (simp [intOf];omega) | omega
  ·go_ret;have hk2:k=rs.length:=by omega
   subst hk2;have ho:=HO.out;rw [List.take_length] at ho;obtain ⟨cb,c,rfl,hr⟩:=iJ1 ho hne;exact ⟨cb,c,rfl,hr,ho.lt cb rfl,HB.out⟩
end Go.Proofs.YtjdkagafdnchhaaGreatDoor
namespace Go.Proofs.YtjdkagafdnchhaaGreatDoor
open Go.RowKit Go.Maps
def mW0 (m:Nat):Code→Option Code
 | .region k ops b=>if k=m then some (.region k ops b) else none
 | .block _ c=>mW0 m c
 | .seq a b=>match mW0 m a with
  | some c=>some c
  | none=>mW0 m b
 | .cond _ a b=>match mW0 m a with
  | some c=>some c
  | none=>mW0 m b
 | .loop c=>mW0 m c
 | .scope c=>mW0 m c
 | _=>none
noncomputable def cmpC:Code:=((Tryz.f3.body.bind (mW0 36)).getD .skip)
set_option maxRecDepth 100000 in
set_option maxHeartbeats 40000000 in
theorem tU1 (w w8:World) (eb:Nat) (k5:EgK) (M5:Mkt) (base mb bt ct B1 B2 ca cc cp:Nat) (aa ac ap:Option Addr) (vb5 vi5:Value) (Q:Exit→Act→World→Prop) (c0 c1 c2 c3 c4 c6 c8 c9 c10 c11 c12 c13 c14 c15 c16 c17 c18 c25 c26 c27 c28 c29 c30 c31 c32 c33 c34 c35 c36 c37 c38 c39 c40 c41 c42 c43 c44 c45 c46 c47 c48 c49 c50 c51 c52 c53 c54 c55 c56 c57 c58 c59 c60 c61 c62 c63 c64 c65 c66 c67 c68 c69 c70 c71 c72 c73 c74 c75 c76 c77 c78 c79 c80 c81 c82 c83 c84 c85 c86 c87 c88 c89 c90 c91 c92 c93 c94 c95 c96 c97 c98 c99 c100 c101 c102 c103 c104 c105 c106 c107 c108 c109 c110 c111 c112 c113 c114 c115 c116 c117 c118 c119 c120 c121 c122 c123 c124 c125 c126 c127 c128 c129 c130 c131 c132 c133 c134 c135 c136 c137 c138 c139 c140 c141 c142 c143 c144 c145 c146 c147 c148 c149 c150 c151 c152 c153 c154 c155 c156 c157 c158 c159 c160 c161 c162 c163 c164 c165 c166 c167 c168 c169 c170 c171 c172 c173 c174 c175 c176 c177 c178 c179 c180 c181 c182 c183 c184 c185 c186 c187 c188 c189 c190 c191 c192 c193 c194 c195 c196 c197 c198 c199 c200 c201 c202 c203 c204 c205 c206 c207 c208 c209 c210 c211 c212 c213 c214 c215 c216 c217 c218 c219 c220 c221 c222 c223 c224 c225 c226 c227 c228 c229 c230 c231 c232 c233 c234 c235 c236 c237 c238 c239 c240 c241 c242 c243 c244 c245 c246 c247 c248 c249 c250 c251:Value) (hA:EpAt w w8 eb k5 M5 base mb bt ct M5 vb5 (.slice ap M5.P.length cp) vi5) (hN:MNum M5) (h1:w8.ownsRow B1 41 5 (.slice aa (aJ0 1 M5.L).length ca) (aJ0 1 M5.L).length (oV (aJ0 1 M5.L))) (h2:w8.ownsRow B2 41 5 (.slice ac (aJ0 2 M5.L).length cc) (aJ0 2 M5.L).length (oV (aJ0 2 M5.L)))
  (hP:∀(x:List PanicEntry) (a a':Act) (w:World),a.defers=a'.defers→Q (.panic x) a w→Q (.panic x) a' w)
  (hQ:∀(e177 e178 e179 e180 e181 e182 e183 e184 e185 e186 e187 e188 e189 e190 e191 e192 e193 e194 e195 e196 e197 e198 e199 e200 e201 e202 e203 e204 e205 e206 e207 e208 e209 e210 e211 e212 e213 e214 e215 e216 e217 e218 e219 e220 e221 e222 e223 e224 e225 e226 e227 e228 e229 e230 e231 e232 e233 e234 e235 e236 e237 e238 e239 e240 e241 e242 e243 e244 e245 e246 e247 e248 e249 e250:Value) (wq:World),EpAt w wq eb k5 M5 base mb bt ct M5 vb5 (.slice ap M5.P.length cp) vi5→Q .normal ⟨#[c0,c1,c2,c3,c4,.pointer (some ⟨eb,0,none⟩),c6,.pointer (some ⟨mb,0,none⟩),c8,c9,c10,c11,c12,c13,c14,c15,c16,c17,c18,.int .i64 M5.an,.int .i64 M5.la,.slice aa (aJ0 1 M5.L).length ca,.nilIface,.slice ac (aJ0 2 M5.L).length cc,.nilIface,c25,c26,c27,c28,c29,c30,c31,c32,c33,c34,c35,c36,c37,c38,c39,c40,c41,c42,c43,c44,c45,c46,c47,c48,c49,c50,c51,c52,c53,c54,c55,c56,c57,c58,c59,c60,c61,c62,c63,c64,c65,c66,c67,c68,c69,c70,c71,c72,c73,c74,c75,c76,c77,c78,c79,c80,c81,c82,c83,c84,c85,c86,c87,c88,c89,c90,c91,c92,c93,c94,c95,c96,c97,c98,c99,c100,c101,c102,c103,c104,c105,c106,c107,c108,c109,c110,c111,c112,c113,c114,c115,c116,c117,c118,c119,c120,c121,c122,c123,c124,c125,c126,c127,c128,c129,c130,c131,c132,c133,c134,c135,c136,c137,c138,c139,c140,c141,c142,c143,c144,c145,c146,c147,c148,c149,c150,c151,c152,c153,c154,c155,c156,c157,c158,c159,c160,c161,c162,c163,c164,c165,c166,c167,c168,c169,c170,c171,c172,c173,c174,c175,c176,e177,e178,e179,e180,e181,e182,e183,e184,e185,e186,e187,e188,e189,e190,e191,e192,e193,e194,e195,e196,e197,e198,e199,e200,e201,e202,e203,e204,e205,e206,e207,e208,e209,e210,e211,e212,e213,e214,e215,e216,e217,e218,e219,e220,e221,e222,e223,e224,e225,e226,e227,e228,e229,e230,e231,e232,e233,e234,e235,e236,e237,e238,e239,e240,e241,e242,e243,e244,e245,e246,e247,e248,e249,e250,.bool false],[]⟩ wq):
  Code.wp Tryz.prog cmpC Q ⟨#[c0,c1,c2,c3,c4,.pointer (some ⟨eb,0,none⟩),c6,.pointer (some ⟨mb,0,none⟩),c8,c9,c10,c11,c12,c13,c14,c15,c16,c17,c18,.int .i64 M5.an,.int .i64 M5.la,.slice aa (aJ0 1 M5.L).length ca,.nilIface,.slice ac (aJ0 2 M5.L).length cc,.nilIface,c25,c26,c27,c28,c29,c30,c31,c32,c33,c34,c35,c36,c37,c38,c39,c40,c41,c42,c43,c44,c45,c46,c47,c48,c49,c50,c51,c52,c53,c54,c55,c56,c57,c58,c59,c60,c61,c62,c63,c64,c65,c66,c67,c68,c69,c70,c71,c72,c73,c74,c75,c76,c77,c78,c79,c80,c81,c82,c83,c84,c85,c86,c87,c88,c89,c90,c91,c92,c93,c94,c95,c96,c97,c98,c99,c100,c101,c102,c103,c104,c105,c106,c107,c108,c109,c110,c111,c112,c113,c114,c115,c116,c117,c118,c119,c120,c121,c122,c123,c124,c125,c126,c127,c128,c129,c130,c131,c132,c133,c134,c135,c136,c137,c138,c139,c140,c141,c142,c143,c144,c145,c146,c147,c148,c149,c150,c151,c152,c153,c154,c155,c156,c157,c158,c159,c160,c161,c162,c163,c164,c165,c166,c167,c168,c169,c170,c171,c172,c173,c174,c175,c176,c177,c178,c179,c180,c181,c182,c183,c184,c185,c186,c187,c188,c189,c190,c191,c192,c193,c194,c195,c196,c197,c198,c199,c200,c201,c202,c203,c204,c205,c206,c207,c208,c209,c210,c211,c212,c213,c214,c215,c216,c217,c218,c219,c220,c221,c222,c223,c224,c225,c226,c227,c228,c229,c230,c231,c232,c233,c234,c235,c236,c237,c238,c239,c240,c241,c242,c243,c244,c245,c246,c247,c248,c249,c250,c251],[]⟩ w8:=by
 conv=>arg 2;whnf
 have HQ:Hid (∀(e177 e178 e179 e180 e181 e182 e183 e184 e185 e186 e187 e188 e189 e190 e191 e192 e193 e194 e195 e196 e197 e198 e199 e200 e201 e202 e203 e204 e205 e206 e207 e208 e209 e210 e211 e212 e213 e214 e215 e216 e217 e218 e219 e220 e221 e222 e223 e224 e225 e226 e227 e228 e229 e230 e231 e232 e233 e234 e235 e236 e237 e238 e239 e240 e241 e242 e243 e244 e245 e246 e247 e248 e249 e250:Value) (wq:World),EpAt w wq eb k5 M5 base mb bt ct M5 vb5 (.slice ap M5.P.length cp) vi5→Q .normal ⟨#[c0,c1,c2,c3,c4,.pointer (some ⟨eb,0,none⟩),c6,.pointer (some ⟨mb,0,none⟩),c8,c9,c10,c11,c12,c13,c14,c15,c16,c17,c18,.int .i64 M5.an,.int .i64 M5.la,.slice aa (aJ0 1 M5.L).length ca,.nilIface,.slice ac (aJ0 2 M5.L).length cc,.nilIface,c25,c26,c27,c28,c29,c30,c31,c32,c33,c34,c35,c36,c37,c38,c39,c40,c41,c42,c43,c44,c45,c46,c47,c48,c49,c50,c51,c52,c53,c54,c55,c56,c57,c58,c59,c60,c61,c62,c63,c64,c65,c66,c67,c68,c69,c70,c71,c72,c73,c74,c75,c76,c77,c78,c79,c80,c81,c82,c83,c84,c85,c86,c87,c88,c89,c90,c91,c92,c93,c94,c95,c96,c97,c98,c99,c100,c101,c102,c103,c104,c105,c106,c107,c108,c109,c110,c111,c112,c113,c114,c115,c116,c117,c118,c119,c120,c121,c122,c123,c124,c125,c126,c127,c128,c129,c130,c131,c132,c133,c134,c135,c136,c137,c138,c139,c140,c141,c142,c143,c144,c145,c146,c147,c148,c149,c150,c151,c152,c153,c154,c155,c156,c157,c158,c159,c160,c161,c162,c163,c164,c165,c166,c167,c168,c169,c170,c171,c172,c173,c174,c175,c176,e177,e178,e179,e180,e181,e182,e183,e184,e185,e186,e187,e188,e189,e190,e191,e192,e193,e194,e195,e196,e197,e198,e199,e200,e201,e202,e203,e204,e205,e206,e207,e208,e209,e210,e211,e212,e213,e214,e215,e216,e217,e218,e219,e220,e221,e222,e223,e224,e225,e226,e227,e228,e229,e230,e231,e232,e233,e234,e235,e236,e237,e238,e239,e240,e241,e242,e243,e244,e245,e246,e247,e248,e249,e250,.bool false],[]⟩ wq):=hQ;have HP:Hid (∀(x:List PanicEntry) (a a':Act) (w:World),a.defers=a'.defers→Q (.panic x) a w→Q (.panic x) a' w):=hP;have HSS:Hid (∀V,EpAt w V eb k5 M5 base mb bt ct M5 vb5 (.slice ap M5.P.length cp) vi5→(fun V:World=>V.cell? ⟨mb,10,none⟩=some (.int .i64 M5.ph)∧V.cell? ⟨mb,11,none⟩=some (.int .i64 M5.now)∧V.cell? ⟨mb,3,none⟩=some (.int .i64 M5.an)∧V.cell? ⟨mb,4,none⟩=some (.int .i64 M5.la)∧V.cell? ⟨mb,8,none⟩=some (.slice ap M5.P.length cp)) V):=fun V hV=>⟨aA0 (j:=10) hV.duo.mkt.box rfl,aA0 (j:=11) hV.duo.mkt.box rfl,aA0 (j:=3) hV.duo.mkt.box rfl,aA0 (j:=4) hV.duo.mkt.box rfl,aA0 (j:=8) hV.duo.mkt.box rfl⟩
 have HPR:Hid (∀o∈M5.L,-1000000000≤o.price∧o.price≤1000000000):=hA.duo.eg.lok.prices;have HLE:Hid (M5.L.length≤100∧LOk M5.L):=⟨hA.duo.eg.few100,hA.duo.eg.lok⟩;have HS1:Hid ((aJ0 1 M5.L).length≤1000∧(aJ0 2 M5.L).length≤1000):=⟨by have:=hK0 1 M5.L;have:=HLE.out.1;omega,by have:=hK0 2 M5.L;have:=HLE.out.1;omega⟩;have HNUM5:Hid (MNum M5):=hN;have bz:Below w8.heap.size w8 w8.drew:=(Below.refl _ _).drew;have HAwz:Hid (EpAt w w8.drew eb k5 M5 base mb bt ct M5 vb5 (.slice ap M5.P.length cp) vi5):=hA.below bz;have HRwz:Hid (w8.drew.ownsRow B1 41 5 (.slice aa (aJ0 1 M5.L).length ca) (aJ0 1 M5.L).length (oV (aJ0 1 M5.L))∧w8.drew.ownsRow B2 41 5 (.slice ac (aJ0 2 M5.L).length cc) (aJ0 2 M5.L).length (oV (aJ0 2 M5.L))):=⟨aO0 h1 bz lR7,aO0 h2 bz lR7⟩;clear hQ hP hN hA h1 h2;refine bX0 (fun _=>fun V:World=>V.cell? ⟨mb,10,none⟩=some (.int .i64 M5.ph)∧V.cell? ⟨mb,11,none⟩=some (.int .i64 M5.now)∧V.cell? ⟨mb,3,none⟩=some (.int .i64 M5.an)∧V.cell? ⟨mb,4,none⟩=some (.int .i64 M5.la)∧V.cell? ⟨mb,8,none⟩=some (.slice ap M5.P.length cp)) (fun _ _=>false) (by kernel_rfl) (fun _=>HSS.out _ HAwz.out) (fun hHeld=>?_);generalize w8.drew=wz at bz hHeld HAwz HRwz ⊢;clear bz;refine tkM7 0 (i:=0) (v:=?_) rfl (by kernel_rfl) (fun _ _ _ h=>HP.out _ _ _ _ (by rfl) h) (by kernel_rfl) ?_ (hHeld 0) ?_;rotate_left
 ·intro w hSw;try simp only [lateS_zero] at hSw
  try dsimp only at hSw
  go_simp;try rfl
 refine tkM7 0 (i:=1) (v:=?_) rfl (by kernel_rfl) (fun _ _ _ h=>HP.out _ _ _ _ (by rfl) h) (by kernel_rfl) ?_ (hHeld 0) ?_;rotate_left
 ·intro w hSw;try simp only [lateS_zero] at hSw
  try dsimp only at hSw
  go_simp;try rfl
 refine tkM7 0 (i:=2) (v:=?_) rfl (by kernel_rfl) (fun _ _ _ h=>HP.out _ _ _ _ (by rfl) h) (by kernel_rfl) ?_ (hHeld 0) ?_;rotate_left
 ·intro w hSw;try simp only [lateS_zero] at hSw
  try dsimp only at hSw
  go_simp;try rfl
 refine tkM7 0 (i:=3) (v:=?_) rfl (by kernel_rfl) (fun _ _ _ h=>HP.out _ _ _ _ (by rfl) h) (by kernel_rfl) ?_ (hHeld 0) ?_;rotate_left
 ·intro w hSw;try simp only [lateS_zero] at hSw
  try dsimp only at hSw
  go_simp;try rfl
 refine tkM7 0 (i:=4) (v:=?_) rfl (by kernel_rfl) (fun _ _ _ h=>HP.out _ _ _ _ (by rfl) h) (by kernel_rfl) ?_ (hHeld 0) ?_;rotate_left
 ·intro w hSw;try simp only [lateS_zero] at hSw
  try dsimp only at hSw
  go_simp;try rfl
 refine tkM7 0 (i:=5) (v:=?_) rfl (by kernel_rfl) (fun _ _ _ h=>HP.out _ _ _ _ (by rfl) h) (by kernel_rfl) ?_ (hHeld 0) ?_;rotate_left
 ·intro w hSw;try simp only [lateS_zero] at hSw
  try dsimp only at hSw
  go_simp;try rfl
 refine tkM7 0 (i:=6) (v:=?_) rfl (by kernel_rfl) (fun _ _ _ h=>HP.out _ _ _ _ (by rfl) h) (by kernel_rfl) ?_ (hHeld 0) ?_;rotate_left
 ·intro w hSw;try simp only [lateS_zero] at hSw
  try dsimp only at hSw
  go_simp;try rfl
 refine tkM7 0 (i:=7) (v:=?_) rfl (by kernel_rfl) (fun _ _ _ h=>HP.out _ _ _ _ (by rfl) h) (by kernel_rfl) ?_ (hHeld 0) ?_;rotate_left
 ·intro w hSw;try simp only [lateS_zero] at hSw
  try dsimp only at hSw
  go_simp;try rfl
 refine tkM7 0 (i:=9) (v:=?_) rfl (by kernel_rfl) (fun _ _ _ h=>HP.out _ _ _ _ (by rfl) h) (by kernel_rfl) ?_ (hHeld 0) ?_;rotate_left
 ·intro w hSw;try simp only [lateS_zero] at hSw
  try dsimp only at hSw
  go_simp;try rfl
 refine tkM7 0 (i:=10) (v:=?_) rfl (by kernel_rfl) (fun _ _ _ h=>HP.out _ _ _ _ (by rfl) h) (by kernel_rfl) ?_ (hHeld 0) ?_;rotate_left
 ·intro w hSw;try simp only [lateS_zero] at hSw
  try dsimp only at hSw
  go_simp;try rfl
 refine tkM7 0 (i:=11) (v:=?_) rfl (by kernel_rfl) (fun _ _ _ h=>HP.out _ _ _ _ (by rfl) h) (by kernel_rfl) ?_ (hHeld 0) ?_;rotate_left
 ·intro w hSw;try simp only [lateS_zero] at hSw
  try dsimp only at hSw
  go_simp;try rfl
 refine tkM7 0 (i:=12) (v:=?_) rfl (by kernel_rfl) (fun _ _ _ h=>HP.out _ _ _ _ (by rfl) h) (by kernel_rfl) ?_ (hHeld 0) ?_;rotate_left
 ·intro w hSw;try simp only [lateS_zero] at hSw
  try dsimp only at hSw
  go_simp;try rfl
 refine aM0 (i:=8) (by kernel_rfl) rfl (fun K hK=>?_);go_simp;refine (pP1 eb k5 M5 wz HAwz.out.duo.eg).mono ?_;rintro e wq ⟨rfl,hw⟩;rw [hw];clear hw wq;refine hK.out _ _ (fun _ _ h=>h) ?_;clear hK K;refine tkM7 0 (i:=13) (v:=?_) rfl (by kernel_rfl) (fun _ _ _ h=>HP.out _ _ _ _ (by rfl) h) (by kernel_rfl) ?_ (hHeld 0) ?_;rotate_left
 ·intro w hSw;try simp only [lateS_zero] at hSw
  try dsimp only at hSw
  go_simp;try rfl
 refine tkM7 0 (i:=14) (v:=?_) rfl (by kernel_rfl) (fun _ _ _ h=>HP.out _ _ _ _ (by rfl) h) (by kernel_rfl) ?_ (hHeld 0) ?_;rotate_left
 ·intro w hSw;try simp only [lateS_zero] at hSw
  try dsimp only at hSw
  go_simp;try rfl
 refine tkM7 0 (i:=15) (v:=?_) rfl (by kernel_rfl) (fun _ _ _ h=>HP.out _ _ _ _ (by rfl) h) (by kernel_rfl) ?_ (hHeld 0) ?_;rotate_left
 ·intro w hSw;try simp only [lateS_zero] at hSw
  try dsimp only at hSw
  go_simp;try rfl
 refine tkM7 0 (i:=16) (v:=?_) rfl (by kernel_rfl) (fun _ _ _ h=>HP.out _ _ _ _ (by rfl) h) (by kernel_rfl) ?_ (hHeld 0) ?_;rotate_left
 ·intro w hSw;try simp only [lateS_zero] at hSw
  try dsimp only at hSw
  go_simp;try rfl
 refine tkM7 0 (i:=18) (v:=?_) rfl (by kernel_rfl) (fun _ _ _ h=>HP.out _ _ _ _ (by rfl) h) (by kernel_rfl) ?_ (hHeld 0) ?_;rotate_left
 ·intro w hSw;try simp only [lateS_zero] at hSw
  try dsimp only at hSw
  go_simp;try rfl
 refine tkM7 0 (i:=19) (v:=?_) rfl (by kernel_rfl) (fun _ _ _ h=>HP.out _ _ _ _ (by rfl) h) (by kernel_rfl) ?_ (hHeld 0) ?_;rotate_left
 ·intro w hSw;try simp only [lateS_zero] at hSw
  try dsimp only at hSw
  go_simp;try rfl
 refine tkM7 0 (i:=20) (v:=?_) rfl (by kernel_rfl) (fun _ _ _ h=>HP.out _ _ _ _ (by rfl) h) (by kernel_rfl) ?_ (hHeld 0) ?_;rotate_left
 ·intro w hSw;try simp only [lateS_zero] at hSw
  try dsimp only at hSw
  go_simp;try rfl
 refine tkM7 0 (i:=21) (v:=?_) rfl (by kernel_rfl) (fun _ _ _ h=>HP.out _ _ _ _ (by rfl) h) (by kernel_rfl) ?_ (hHeld 0) ?_;rotate_left
 ·intro w hSw;try simp only [lateS_zero] at hSw
  try dsimp only at hSw
  go_simp;try rfl
 refine aM0 (i:=17) (by kernel_rfl) rfl (fun K hK=>?_);go_simp;refine (tN1 eb k5 M5 wz HAwz.out.duo.eg).mono ?_;rintro e wq ⟨rfl,hw⟩;rw [hw];clear hw wq;refine hK.out _ _ (fun _ _ h=>h) ?_;clear hK K;refine tkM7 0 (i:=22) (v:=?_) rfl (by kernel_rfl) (fun _ _ _ h=>HP.out _ _ _ _ (by rfl) h) (by kernel_rfl) ?_ (hHeld 0) ?_;rotate_left
 ·intro w hSw;try simp only [lateS_zero] at hSw
  try dsimp only at hSw
  go_simp;try rfl
 refine tkM7 0 (i:=23) (v:=?_) rfl (by kernel_rfl) (fun _ _ _ h=>HP.out _ _ _ _ (by rfl) h) (by kernel_rfl) ?_ (hHeld 0) ?_;rotate_left
 ·intro w hSw;try simp only [lateS_zero] at hSw
  try dsimp only at hSw
  go_simp;try rfl
 refine tkM7 0 (i:=24) (v:=?_) rfl (by kernel_rfl) (fun _ _ _ h=>HP.out _ _ _ _ (by rfl) h) (by kernel_rfl) ?_ (hHeld 0) ?_;rotate_left
 ·intro w hSw;try simp only [lateS_zero] at hSw
  try dsimp only at hSw
  go_simp;try rfl
 refine tkM7 0 (i:=25) (v:=?_) rfl (by kernel_rfl) (fun _ _ _ h=>HP.out _ _ _ _ (by rfl) h) (by kernel_rfl) ?_ (hHeld 0) ?_;rotate_left
 ·intro w hSw;try simp only [lateS_zero] at hSw
  try dsimp only at hSw
  go_simp;try rfl
 refine tkM7 0 (i:=26) (v:=?_) rfl (by kernel_rfl) (fun _ _ _ h=>HP.out _ _ _ _ (by rfl) h) (by kernel_rfl) ?_ (hHeld 0) ?_;rotate_left
 ·intro w hSw;try simp only [lateS_zero] at hSw
  try dsimp only at hSw
  go_simp;try rfl
 refine tkM7 0 (i:=27) (v:=?_) rfl (by kernel_rfl) (fun _ _ _ h=>HP.out _ _ _ _ (by rfl) h) (by kernel_rfl) ?_ (hHeld 0) ?_;rotate_left
 ·intro w hSw;try simp only [lateS_zero] at hSw
  try dsimp only at hSw
  go_simp;try rfl
 refine tkM7 0 (i:=28) (v:=?_) rfl (by kernel_rfl) (fun _ _ _ h=>HP.out _ _ _ _ (by rfl) h) (by kernel_rfl) ?_ (hHeld 0) ?_;rotate_left
 ·intro w hSw;try simp only [lateS_zero] at hSw
  try dsimp only at hSw
  go_simp;try rfl
 refine tkM7 0 (i:=29) (v:=?_) rfl (by kernel_rfl) (fun _ _ _ h=>HP.out _ _ _ _ (by rfl) h) (by kernel_rfl) ?_ (hHeld 0) ?_;rotate_left
 ·intro w hSw;try simp only [lateS_zero] at hSw
  try dsimp only at hSw
  go_simp;try rfl
 refine tkM7 0 (i:=30) (v:=?_) rfl (by kernel_rfl) (fun _ _ _ h=>HP.out _ _ _ _ (by rfl) h) (by kernel_rfl) ?_ (hHeld 0) ?_;rotate_left
 ·intro w hSw;try simp only [lateS_zero] at hSw
  try dsimp only at hSw
  go_simp;try rfl
 refine tkM7 0 (i:=31) (v:=?_) rfl (by kernel_rfl) (fun _ _ _ h=>HP.out _ _ _ _ (by rfl) h) (by kernel_rfl) ?_ (hHeld 0) ?_;rotate_left
 ·intro w hSw;try simp only [lateS_zero] at hSw
  try dsimp only at hSw
  go_simp;try rfl
 refine tkM7 0 (i:=32) (v:=?_) rfl (by kernel_rfl) (fun _ _ _ h=>HP.out _ _ _ _ (by rfl) h) (by kernel_rfl) ?_ (hHeld 0) ?_;rotate_left
 ·intro w hSw;try simp only [lateS_zero] at hSw
  try dsimp only at hSw
  go_simp;try rfl
 refine tkM7 0 (i:=33) (v:=?_) rfl (by kernel_rfl) (fun _ _ _ h=>HP.out _ _ _ _ (by rfl) h) (by kernel_rfl) ?_ (hHeld 0) ?_;rotate_left
 ·intro w hSw;try simp only [lateS_zero] at hSw
  try dsimp only at hSw
  go_simp;try rfl
 refine tkM7 0 (i:=34) (v:=?_) rfl (by kernel_rfl) (fun _ _ _ h=>HP.out _ _ _ _ (by rfl) h) (by kernel_rfl) ?_ (hHeld 0) ?_;rotate_left
 ·intro w hSw;try simp only [lateS_zero] at hSw
  try dsimp only at hSw
  go_simp;try rfl
 refine tkM7 0 (i:=35) (v:=?_) rfl (by kernel_rfl) (fun _ _ _ h=>HP.out _ _ _ _ (by rfl) h) (by kernel_rfl) ?_ (hHeld 0) ?_;rotate_left
 ·intro w hSw;try simp only [lateS_zero] at hSw
  try dsimp only at hSw
  go_simp;try rfl
 refine tkM7 0 (i:=36) (v:=?_) rfl (by kernel_rfl) (fun _ _ _ h=>HP.out _ _ _ _ (by rfl) h) (by kernel_rfl) ?_ (hHeld 0) ?_;rotate_left
 ·intro w hSw;try simp only [lateS_zero] at hSw
  try dsimp only at hSw
  go_simp;try rfl
 refine tkM7 0 (i:=37) (v:=?_) rfl (by kernel_rfl) (fun _ _ _ h=>HP.out _ _ _ _ (by rfl) h) (by kernel_rfl) ?_ (hHeld 0) ?_;rotate_left
 ·intro w hSw;try simp only [lateS_zero] at hSw
  try dsimp only at hSw
  go_simp;try rfl
 refine tkM7 0 (i:=38) (v:=?_) rfl (by kernel_rfl) (fun _ _ _ h=>HP.out _ _ _ _ (by rfl) h) (by kernel_rfl) ?_ (hHeld 0) ?_;rotate_left
 ·intro w hSw;try simp only [lateS_zero] at hSw
  try dsimp only at hSw
  go_simp;try rfl
 refine tkM7 0 (i:=39) (v:=?_) rfl (by kernel_rfl) (fun _ _ _ h=>HP.out _ _ _ _ (by rfl) h) (by kernel_rfl) ?_ (hHeld 0) ?_;rotate_left
 ·intro w hSw;try simp only [lateS_zero] at hSw
  try dsimp only at hSw
  go_simp;try rfl
 refine tkM7 0 (i:=40) (v:=?_) rfl (by kernel_rfl) (fun _ _ _ h=>HP.out _ _ _ _ (by rfl) h) (by kernel_rfl) ?_ (hHeld 0) ?_;rotate_left
 ·intro w hSw;try simp only [lateS_zero] at hSw
  try dsimp only at hSw
  go_simp;try rfl
 refine tkM7 0 (i:=41) (v:=?_) rfl (by kernel_rfl) (fun _ _ _ h=>HP.out _ _ _ _ (by rfl) h) (by kernel_rfl) ?_ (hHeld 0) ?_;rotate_left
 ·intro w hSw;try simp only [lateS_zero] at hSw
  try dsimp only at hSw
  go_simp;try rfl
 refine tkM7 0 (i:=43) (v:=?_) rfl (by kernel_rfl) (fun _ _ _ h=>HP.out _ _ _ _ (by rfl) h) (by kernel_rfl) ?_ (hHeld 0) ?_;rotate_left
 ·intro w hSw;try simp only [lateS_zero] at hSw
  try dsimp only at hSw
  go_simp;try rfl
 refine aM0 (i:=42) (by kernel_rfl) rfl (fun K hK=>?_);go_simp;refine (yF0 eb k5 M5 wz HAwz.out.duo.eg HNUM5.out.la).mono ?_;rintro e wa ⟨rfl,hbwa⟩;have HAwa:Hid (EpAt w wa eb k5 M5 base mb bt ct M5 vb5 (.slice ap M5.P.length cp) vi5):=HAwz.out.below hbwa;have HRwa:Hid (wa.ownsRow B1 41 5 (.slice aa (aJ0 1 M5.L).length ca) (aJ0 1 M5.L).length (oV (aJ0 1 M5.L))∧wa.ownsRow B2 41 5 (.slice ac (aJ0 2 M5.L).length cc) (aJ0 2 M5.L).length (oV (aJ0 2 M5.L))):=⟨aO0 HRwz.out.1 hbwa lR7,aO0 HRwz.out.2 hbwa lR7⟩;refine hK.out _ _ (fun _ _ _=>HSS.out _ HAwa.out) ?_;clear hK K hbwa hHeld;have hHeld:∀_:Nat,(fun V:World=>V.cell? ⟨mb,10,none⟩=some (.int .i64 M5.ph)∧V.cell? ⟨mb,11,none⟩=some (.int .i64 M5.now)∧V.cell? ⟨mb,3,none⟩=some (.int .i64 M5.an)∧V.cell? ⟨mb,4,none⟩=some (.int .i64 M5.la)∧V.cell? ⟨mb,8,none⟩=some (.slice ap M5.P.length cp)) wa:=fun _=>HSS.out _ HAwa.out
 refine aM0 (i:=44) (by kernel_rfl) rfl (fun K hK=>?_);go_simp;refine (pB1 (fk k5 eb) base mb bt ct M5 vb5 (.slice ap M5.P.length cp) vi5 wa HAwa.out.duo.mkt HLE.out.1 HLE.out.2 HNUM5.out.la).mono ?_;rintro e wb ⟨rfl,hbwb⟩;have HAwb:Hid (EpAt w wb eb k5 M5 base mb bt ct M5 vb5 (.slice ap M5.P.length cp) vi5):=HAwa.out.below hbwb;have HRwb:Hid (wb.ownsRow B1 41 5 (.slice aa (aJ0 1 M5.L).length ca) (aJ0 1 M5.L).length (oV (aJ0 1 M5.L))∧wb.ownsRow B2 41 5 (.slice ac (aJ0 2 M5.L).length cc) (aJ0 2 M5.L).length (oV (aJ0 2 M5.L))):=⟨aO0 HRwa.out.1 hbwb lR7,aO0 HRwa.out.2 hbwb lR7⟩;refine hK.out _ _ (fun _ _ _=>HSS.out _ HAwb.out) ?_;clear hK K hbwb hHeld;have hHeld:∀_:Nat,(fun V:World=>V.cell? ⟨mb,10,none⟩=some (.int .i64 M5.ph)∧V.cell? ⟨mb,11,none⟩=some (.int .i64 M5.now)∧V.cell? ⟨mb,3,none⟩=some (.int .i64 M5.an)∧V.cell? ⟨mb,4,none⟩=some (.int .i64 M5.la)∧V.cell? ⟨mb,8,none⟩=some (.slice ap M5.P.length cp)) wb:=fun _=>HSS.out _ HAwb.out
 unfold lL1 qAgg;generalize gQ0 M5=qq;refine tkM7 0 (i:=45) (v:=?_) rfl (by kernel_rfl) (fun _ _ _ h=>HP.out _ _ _ _ (by rfl) h) (by kernel_rfl) ?_ (hHeld 0) ?_;rotate_left
 ·intro w hSw;try simp only [lateS_zero] at hSw
  try dsimp only at hSw
  go_simp;try rfl
 refine tkM7 0 (i:=46) (v:=?_) rfl (by kernel_rfl) (fun _ _ _ h=>HP.out _ _ _ _ (by rfl) h) (by kernel_rfl) ?_ (hHeld 0) ?_;rotate_left
 ·intro w hSw;try simp only [lateS_zero] at hSw
  try dsimp only at hSw
  go_simp;try rfl
 refine tkM7 0 (i:=47) (v:=?_) rfl (by kernel_rfl) (fun _ _ _ h=>HP.out _ _ _ _ (by rfl) h) (by kernel_rfl) ?_ (hHeld 0) ?_;rotate_left
 ·intro w hSw;try simp only [lateS_zero] at hSw
  try dsimp only at hSw
  go_simp;try rfl
 refine tkM7 0 (i:=48) (v:=?_) rfl (by kernel_rfl) (fun _ _ _ h=>HP.out _ _ _ _ (by rfl) h) (by kernel_rfl) ?_ (hHeld 0) ?_;rotate_left
 ·intro w hSw;try simp only [lateS_zero] at hSw
  try dsimp only at hSw
  go_simp;try rfl
 refine tkM7 0 (i:=50) (v:=?_) rfl (by kernel_rfl) (fun _ _ _ h=>HP.out _ _ _ _ (by rfl) h) (by kernel_rfl) ?_ (hHeld 0) ?_;rotate_left
 ·intro w hSw;try simp only [lateS_zero] at hSw
  try dsimp only at hSw
  go_simp;try rfl
 refine tkM7 0 (i:=51) (v:=?_) rfl (by kernel_rfl) (fun _ _ _ h=>HP.out _ _ _ _ (by rfl) h) (by kernel_rfl) ?_ (hHeld 0) ?_;rotate_left
 ·intro w hSw;try simp only [lateS_zero] at hSw
  try dsimp only at hSw
  go_simp;try rfl
 refine tkM7 0 (i:=52) (v:=?_) rfl (by kernel_rfl) (fun _ _ _ h=>HP.out _ _ _ _ (by rfl) h) (by kernel_rfl) ?_ (hHeld 0) ?_;rotate_left
 ·intro w hSw;try simp only [lateS_zero] at hSw
  try dsimp only at hSw
  go_simp;try rfl
 refine tkM7 0 (i:=53) (v:=?_) rfl (by kernel_rfl) (fun _ _ _ h=>HP.out _ _ _ _ (by rfl) h) (by kernel_rfl) ?_ (hHeld 0) ?_;rotate_left
 ·intro w hSw;try simp only [lateS_zero] at hSw
  try dsimp only at hSw
  go_simp;try rfl
 refine aM0 (i:=49) (by kernel_rfl) rfl (fun K hK=>?_);go_simp;refine (lX1 eb k5 M5 wb HAwb.out.duo.eg (by have:=HNUM5.out.pk;omega)).mono ?_;rintro e wc ⟨vq,rfl,hrq,hbwc⟩;have HAwc:Hid (EpAt w wc eb k5 M5 base mb bt ct M5 vb5 (.slice ap M5.P.length cp) vi5):=HAwb.out.below hbwc;have HRwc:Hid (wc.ownsRow B1 41 5 (.slice aa (aJ0 1 M5.L).length ca) (aJ0 1 M5.L).length (oV (aJ0 1 M5.L))∧wc.ownsRow B2 41 5 (.slice ac (aJ0 2 M5.L).length cc) (aJ0 2 M5.L).length (oV (aJ0 2 M5.L))):=⟨aO0 HRwb.out.1 hbwc lR7,aO0 HRwb.out.2 hbwc lR7⟩;obtain ⟨aq,cq,rfl,_,_⟩:=aW0 hrq;have HQC:Hid (wc.ownsRow wb.heap.size 41 5 (.slice aq M5.P.length cq) M5.P.length (oV M5.P)):=hrq;clear hrq;refine hK.out _ _ (fun _ _ _=>HSS.out _ HAwc.out) ?_;clear hK K hbwc hHeld;have hHeld:∀_:Nat,(fun V:World=>V.cell? ⟨mb,10,none⟩=some (.int .i64 M5.ph)∧V.cell? ⟨mb,11,none⟩=some (.int .i64 M5.now)∧V.cell? ⟨mb,3,none⟩=some (.int .i64 M5.an)∧V.cell? ⟨mb,4,none⟩=some (.int .i64 M5.la)∧V.cell? ⟨mb,8,none⟩=some (.slice ap M5.P.length cp)) wc:=fun _=>HSS.out _ HAwc.out
 refine aM0 (i:=54) (by kernel_rfl) rfl (fun K hK=>?_);go_simp;refine (iD1 wb.heap.size base (.slice aq M5.P.length cq) (.slice ap M5.P.length cp) M5.P wc HQC.out HAwc.out.duo.mkt.pk (by have:=HNUM5.out.pk;omega)).mono ?_;rintro e wd ⟨rfl,hbwd⟩;have HAwd:Hid (EpAt w wd eb k5 M5 base mb bt ct M5 vb5 (.slice ap M5.P.length cp) vi5):=HAwc.out.below hbwd;have HRwd:Hid (wd.ownsRow B1 41 5 (.slice aa (aJ0 1 M5.L).length ca) (aJ0 1 M5.L).length (oV (aJ0 1 M5.L))∧wd.ownsRow B2 41 5 (.slice ac (aJ0 2 M5.L).length cc) (aJ0 2 M5.L).length (oV (aJ0 2 M5.L))):=⟨aO0 HRwc.out.1 hbwd lR7,aO0 HRwc.out.2 hbwd lR7⟩;refine hK.out _ _ (fun _ _ _=>HSS.out _ HAwd.out) ?_;clear hK K hbwd hHeld;have hHeld:∀_:Nat,(fun V:World=>V.cell? ⟨mb,10,none⟩=some (.int .i64 M5.ph)∧V.cell? ⟨mb,11,none⟩=some (.int .i64 M5.now)∧V.cell? ⟨mb,3,none⟩=some (.int .i64 M5.an)∧V.cell? ⟨mb,4,none⟩=some (.int .i64 M5.la)∧V.cell? ⟨mb,8,none⟩=some (.slice ap M5.P.length cp)) wd:=fun _=>HSS.out _ HAwd.out
 refine tkM7 0 (i:=55) (v:=?_) rfl (by kernel_rfl) (fun _ _ _ h=>HP.out _ _ _ _ (by rfl) h) (by kernel_rfl) ?_ (hHeld 0) ?_;rotate_left
 ·intro w hSw;try simp only [lateS_zero] at hSw
  try dsimp only at hSw
  go_simp;try rfl
 refine tkM7 0 (i:=56) (v:=?_) rfl (by kernel_rfl) (fun _ _ _ h=>HP.out _ _ _ _ (by rfl) h) (by kernel_rfl) ?_ (hHeld 0) ?_;rotate_left
 ·intro w hSw;try simp only [lateS_zero] at hSw
  try dsimp only at hSw
  go_simp;try rfl
 refine tkM7 0 (i:=57) (v:=?_) rfl (by kernel_rfl) (fun _ _ _ h=>HP.out _ _ _ _ (by rfl) h) (by kernel_rfl) ?_ (hHeld 0) ?_;rotate_left
 ·intro w hSw;try simp only [lateS_zero] at hSw
  try dsimp only at hSw
  go_simp;try rfl
 refine tkM7 0 (i:=58) (v:=?_) rfl (by kernel_rfl) (fun _ _ _ h=>HP.out _ _ _ _ (by rfl) h) (by kernel_rfl) ?_ (hHeld 0) ?_;rotate_left
 ·intro w hSw;try simp only [lateS_zero] at hSw
  try dsimp only at hSw
  go_simp;try rfl
 refine tkM7 0 (i:=59) (v:=?_) rfl (by kernel_rfl) (fun _ _ _ h=>HP.out _ _ _ _ (by rfl) h) (by kernel_rfl) ?_ (hHeld 0) ?_;rotate_left
 ·intro w hSw;try simp only [lateS_zero] at hSw
  try dsimp only at hSw
  go_simp;try rfl
 refine tkM7 0 (i:=60) (v:=?_) rfl (by kernel_rfl) (fun _ _ _ h=>HP.out _ _ _ _ (by rfl) h) (by kernel_rfl) ?_ (hHeld 0) ?_;rotate_left
 ·intro w hSw;try simp only [lateS_zero] at hSw
  try dsimp only at hSw
  go_simp;try rfl
 refine tkM7 0 (i:=61) (v:=?_) rfl (by kernel_rfl) (fun _ _ _ h=>HP.out _ _ _ _ (by rfl) h) (by kernel_rfl) ?_ (hHeld 0) ?_;rotate_left
 ·intro w hSw;try simp only [lateS_zero] at hSw
  try dsimp only at hSw
  go_simp;try rfl
 refine aM0 (i:=62) (by kernel_rfl) rfl (fun K hK=>?_);go_simp;refine (eY0 base (spM (fk k5 eb) mb bt ct M5 vb5 (.slice ap M5.P.length cp) vi5) vb5 M5.L 1 wd HAwd.out.duo.mkt.book (by have:=HLE.out.1;omega) HPR.out).mono ?_;rintro e we ⟨vs1,rfl,hrs1,hbwe⟩;have HAwe:Hid (EpAt w we eb k5 M5 base mb bt ct M5 vb5 (.slice ap M5.P.length cp) vi5):=HAwd.out.below hbwe;have HRwe:Hid (we.ownsRow B1 41 5 (.slice aa (aJ0 1 M5.L).length ca) (aJ0 1 M5.L).length (oV (aJ0 1 M5.L))∧we.ownsRow B2 41 5 (.slice ac (aJ0 2 M5.L).length cc) (aJ0 2 M5.L).length (oV (aJ0 2 M5.L))):=⟨aO0 HRwd.out.1 hbwe lR7,aO0 HRwd.out.2 hbwe lR7⟩;obtain ⟨as1,cs1,rfl,_,_⟩:=aW0 hrs1;have HQE:Hid (we.ownsRow wd.heap.size 41 5 (.slice as1 (aJ0 1 M5.L).length cs1) (aJ0 1 M5.L).length (oV (aJ0 1 M5.L))):=hrs1;clear hrs1;refine hK.out _ _ (fun _ _ _=>HSS.out _ HAwe.out) ?_;clear hK K hbwe hHeld;have hHeld:∀_:Nat,(fun V:World=>V.cell? ⟨mb,10,none⟩=some (.int .i64 M5.ph)∧V.cell? ⟨mb,11,none⟩=some (.int .i64 M5.now)∧V.cell? ⟨mb,3,none⟩=some (.int .i64 M5.an)∧V.cell? ⟨mb,4,none⟩=some (.int .i64 M5.la)∧V.cell? ⟨mb,8,none⟩=some (.slice ap M5.P.length cp)) we:=fun _=>HSS.out _ HAwe.out
 refine aM0 (i:=63) (by kernel_rfl) rfl (fun K hK=>?_);go_simp;refine (iD1 B1 wd.heap.size (.slice aa (aJ0 1 M5.L).length ca) (.slice as1 (aJ0 1 M5.L).length cs1) (aJ0 1 M5.L) we HRwe.out.1 HQE.out HS1.out.1).mono ?_;rintro e wf ⟨rfl,hbwf⟩;have HAwf:Hid (EpAt w wf eb k5 M5 base mb bt ct M5 vb5 (.slice ap M5.P.length cp) vi5):=HAwe.out.below hbwf;have HRwf:Hid (wf.ownsRow B1 41 5 (.slice aa (aJ0 1 M5.L).length ca) (aJ0 1 M5.L).length (oV (aJ0 1 M5.L))∧wf.ownsRow B2 41 5 (.slice ac (aJ0 2 M5.L).length cc) (aJ0 2 M5.L).length (oV (aJ0 2 M5.L))):=⟨aO0 HRwe.out.1 hbwf lR7,aO0 HRwe.out.2 hbwf lR7⟩;refine hK.out _ _ (fun _ _ _=>HSS.out _ HAwf.out) ?_;clear hK K hbwf hHeld;have hHeld:∀_:Nat,(fun V:World=>V.cell? ⟨mb,10,none⟩=some (.int .i64 M5.ph)∧V.cell? ⟨mb,11,none⟩=some (.int .i64 M5.now)∧V.cell? ⟨mb,3,none⟩=some (.int .i64 M5.an)∧V.cell? ⟨mb,4,none⟩=some (.int .i64 M5.la)∧V.cell? ⟨mb,8,none⟩=some (.slice ap M5.P.length cp)) wf:=fun _=>HSS.out _ HAwf.out
 refine tkM7 0 (i:=64) (v:=?_) rfl (by kernel_rfl) (fun _ _ _ h=>HP.out _ _ _ _ (by rfl) h) (by kernel_rfl) ?_ (hHeld 0) ?_;rotate_left
 ·intro w hSw;try simp only [lateS_zero] at hSw
  try dsimp only at hSw
  go_simp;try rfl
 refine tkM7 0 (i:=65) (v:=?_) rfl (by kernel_rfl) (fun _ _ _ h=>HP.out _ _ _ _ (by rfl) h) (by kernel_rfl) ?_ (hHeld 0) ?_;rotate_left
 ·intro w hSw;try simp only [lateS_zero] at hSw
  try dsimp only at hSw
  go_simp;try rfl
 refine tkM7 0 (i:=66) (v:=?_) rfl (by kernel_rfl) (fun _ _ _ h=>HP.out _ _ _ _ (by rfl) h) (by kernel_rfl) ?_ (hHeld 0) ?_;rotate_left
 ·intro w hSw;try simp only [lateS_zero] at hSw
  try dsimp only at hSw
  go_simp;try rfl
 refine tkM7 0 (i:=67) (v:=?_) rfl (by kernel_rfl) (fun _ _ _ h=>HP.out _ _ _ _ (by rfl) h) (by kernel_rfl) ?_ (hHeld 0) ?_;rotate_left
 ·intro w hSw;try simp only [lateS_zero] at hSw
  try dsimp only at hSw
  go_simp;try rfl
 refine tkM7 0 (i:=68) (v:=?_) rfl (by kernel_rfl) (fun _ _ _ h=>HP.out _ _ _ _ (by rfl) h) (by kernel_rfl) ?_ (hHeld 0) ?_;rotate_left
 ·intro w hSw;try simp only [lateS_zero] at hSw
  try dsimp only at hSw
  go_simp;try rfl
 refine tkM7 0 (i:=69) (v:=?_) rfl (by kernel_rfl) (fun _ _ _ h=>HP.out _ _ _ _ (by rfl) h) (by kernel_rfl) ?_ (hHeld 0) ?_;rotate_left
 ·intro w hSw;try simp only [lateS_zero] at hSw
  try dsimp only at hSw
  go_simp;try rfl
 refine tkM7 0 (i:=70) (v:=?_) rfl (by kernel_rfl) (fun _ _ _ h=>HP.out _ _ _ _ (by rfl) h) (by kernel_rfl) ?_ (hHeld 0) ?_;rotate_left
 ·intro w hSw;try simp only [lateS_zero] at hSw
  try dsimp only at hSw
  go_simp;try rfl
 refine aM0 (i:=71) (by kernel_rfl) rfl (fun K hK=>?_);go_simp;refine (eY0 base (spM (fk k5 eb) mb bt ct M5 vb5 (.slice ap M5.P.length cp) vi5) vb5 M5.L 2 wf HAwf.out.duo.mkt.book (by have:=HLE.out.1;omega) HPR.out).mono ?_;rintro e wg ⟨vs2,rfl,hrs2,hbwg⟩;have HAwg:Hid (EpAt w wg eb k5 M5 base mb bt ct M5 vb5 (.slice ap M5.P.length cp) vi5):=HAwf.out.below hbwg;have HRwg:Hid (wg.ownsRow B1 41 5 (.slice aa (aJ0 1 M5.L).length ca) (aJ0 1 M5.L).length (oV (aJ0 1 M5.L))∧wg.ownsRow B2 41 5 (.slice ac (aJ0 2 M5.L).length cc) (aJ0 2 M5.L).length (oV (aJ0 2 M5.L))):=⟨aO0 HRwf.out.1 hbwg lR7,aO0 HRwf.out.2 hbwg lR7⟩;obtain ⟨as2,cs2,rfl,_,_⟩:=aW0 hrs2;have HQG:Hid (wg.ownsRow wf.heap.size 41 5 (.slice as2 (aJ0 2 M5.L).length cs2) (aJ0 2 M5.L).length (oV (aJ0 2 M5.L))):=hrs2;clear hrs2;refine hK.out _ _ (fun _ _ _=>HSS.out _ HAwg.out) ?_;clear hK K hbwg hHeld;have hHeld:∀_:Nat,(fun V:World=>V.cell? ⟨mb,10,none⟩=some (.int .i64 M5.ph)∧V.cell? ⟨mb,11,none⟩=some (.int .i64 M5.now)∧V.cell? ⟨mb,3,none⟩=some (.int .i64 M5.an)∧V.cell? ⟨mb,4,none⟩=some (.int .i64 M5.la)∧V.cell? ⟨mb,8,none⟩=some (.slice ap M5.P.length cp)) wg:=fun _=>HSS.out _ HAwg.out
 refine aM0 (i:=72) (by kernel_rfl) rfl (fun K hK=>?_);go_simp;refine (iD1 B2 wf.heap.size (.slice ac (aJ0 2 M5.L).length cc) (.slice as2 (aJ0 2 M5.L).length cs2) (aJ0 2 M5.L) wg HRwg.out.2 HQG.out HS1.out.2).mono ?_;rintro e wh ⟨rfl,hbwh⟩;have HAwh:Hid (EpAt w wh eb k5 M5 base mb bt ct M5 vb5 (.slice ap M5.P.length cp) vi5):=HAwg.out.below hbwh;have HRwh:Hid (wh.ownsRow B1 41 5 (.slice aa (aJ0 1 M5.L).length ca) (aJ0 1 M5.L).length (oV (aJ0 1 M5.L))∧wh.ownsRow B2 41 5 (.slice ac (aJ0 2 M5.L).length cc) (aJ0 2 M5.L).length (oV (aJ0 2 M5.L))):=⟨aO0 HRwg.out.1 hbwh lR7,aO0 HRwg.out.2 hbwh lR7⟩;refine hK.out _ _ (fun _ _ _=>HSS.out _ HAwh.out) ?_;clear hK K hbwh hHeld;have hHeld:∀_:Nat,(fun V:World=>V.cell? ⟨mb,10,none⟩=some (.int .i64 M5.ph)∧V.cell? ⟨mb,11,none⟩=some (.int .i64 M5.now)∧V.cell? ⟨mb,3,none⟩=some (.int .i64 M5.an)∧V.cell? ⟨mb,4,none⟩=some (.int .i64 M5.la)∧V.cell? ⟨mb,8,none⟩=some (.slice ap M5.P.length cp)) wh:=fun _=>HSS.out _ HAwh.out
 refine tkM7 0 (i:=73) (v:=?_) rfl (by kernel_rfl) (fun _ _ _ h=>HP.out _ _ _ _ (by rfl) h) (by kernel_rfl) ?_ (hHeld 0) ?_;rotate_left
 ·intro w hSw;try simp only [lateS_zero] at hSw
  try dsimp only at hSw
  go_simp;try rfl
 refine tkM7 0 (i:=74) (v:=?_) rfl (by kernel_rfl) (fun _ _ _ h=>HP.out _ _ _ _ (by rfl) h) (by kernel_rfl) ?_ (hHeld 0) ?_;rotate_left
 ·intro w hSw;try simp only [lateS_zero] at hSw
  try dsimp only at hSw
  go_simp;try rfl
 refine bI0 (by kernel_rfl) ?_ _;exact HQ.out _ _ _ _ _ _ _ _ _ _ _ _ _ _ _ _ _ _ _ _ _ _ _ _ _ _ _ _ _ _ _ _ _ _ _ _ _ _ _ _ _ _ _ _ _ _ _ _ _ _ _ _ _ _ _ _ _ _ _ _ _ _ _ _ _ _ _ _ _ _ _ _ _ _ _ HAwh.out
end Go.Proofs.YtjdkagafdnchhaaGreatDoor
