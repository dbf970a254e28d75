/- DeskPieces: a part of the proof, packed (the readable form: the templates). -/
import Derived.Test.YtaelphbianmckaaGreatDoorQA
import Derived.Test.YtaelphbianmckaaGreatDoorQK
import Derived.Maps.OwnSet
import Derived.Test.YtaelphbianmckaaGreatDoorQF
import Derived.Test.YtaelphbianmckaaGreatDoorQH
import Derived.Test.YtaelphbianmckaaGreatDoorQG
namespace Go.Proofs.YtaelphbianmckaaGreatDoor
open Go.RowKit
theorem Tryz.keyStr:Maps.Keyed Tryz.prog 9:=Maps.string_keyed Tryz.underlying9
theorem Tryz.keyStrAt {s:ByteArray} (h:s.size≤maxLen):keyOf Tryz.prog 9 (.string s)=some (.string s.data.toList):=WideMaps.keyOf_string_mk Tryz.underlying9 h
theorem Tryz.zeroDeed (w:World):(zeroValue 69).run Tryz.prog w=.ok (.agg #[.int .i64 0,.int .i64 0,.nilFunc]) w:=by kernel_rfl
def uB0:List Nat:=[19,20,21,22,23,24,25,26,27,28,29,30,31,32,33,34,35,36]
def rQ0 (v:Value):Option (DataW Unit×List MemPlace):=
 match v with
 | .agg ⟨[.int .i64 a,.int .i64 b,.func (.func f) ⟨[.pointer (some ⟨sb,0,none⟩)]⟩ ⟨[]⟩]⟩=>some (.agg [.lit (.int .i64 a),.lit (.int .i64 b),.lit (.int .i64 (f:Nat)),.lit (.int .i64 (sb:Nat))],[])
 | .agg ⟨[.int .i64 a,.int .i64 b,.nilFunc]⟩=>some (.agg [.lit (.int .i64 a),.lit (.int .i64 b)],[])
 | _=>none
def fA0 (a b:Int) (f sb:Nat):DataW Unit:=.agg [.lit (.int .i64 a),.lit (.int .i64 b),.lit (.int .i64 f),.lit (.int .i64 sb)]
def deedZ:DataW Unit:=.agg [.lit (.int .i64 0),.lit (.int .i64 0)]
def kG1 (a b:Int) (f sb:Nat):Value:=.agg #[.int .i64 a,.int .i64 b,.func (.func f) #[.pointer (some ⟨sb,0,none⟩)] #[]]
theorem kH1 (a b:Int) (f sb:Nat):rQ0 (kG1 a b f sb)=some (fA0 a b f sb,[]):=rfl
theorem eO1 {v:Value} {a b:Int} {f sb:Nat} {ps:List MemPlace} (h:rQ0 v=some (fA0 a b f sb,ps)):v=kG1 a b f sb:=by
 unfold rQ0 at h;split at h
 ·simp only [fA0,Option.some.injEq,Prod.mk.injEq,DataW.agg.injEq,List.cons.injEq,DataW.lit.injEq,Lit.int.injEq,true_and,and_true] at h;obtain ⟨⟨rfl,rfl,h3,h4⟩,_⟩:=h;obtain rfl:=Int.ofNat.inj h3;obtain rfl:=Int.ofNat.inj h4;rfl
 ·simp [fA0] at h
 ·cases h
theorem aR1 {v:Value} {ps:List MemPlace} (h:rQ0 v=some (deedZ,ps)):v=.agg #[.int .i64 0,.int .i64 0,.nilFunc]:=by
 unfold rQ0 at h;split at h
 ·simp [deedZ] at h
 ·simp only [deedZ,Option.some.injEq,Prod.mk.injEq,DataW.agg.injEq,List.cons.injEq,DataW.lit.injEq,Lit.int.injEq,true_and,and_true] at h;obtain ⟨⟨rfl,rfl⟩,_⟩:=h;rfl
 ·cases h
def hY0 (D:DataW Unit) (l:List (List UInt8×DataW Unit)):DataW Unit:=l.foldl (fun D x=>D.put (.string x.1) x.2) D
theorem qE0:∀(l:List (List UInt8×DataW Unit)) {D:DataW Unit},(∃es,D=.map es)→∃es,hY0 D l=.map es
 | [],_,h=>h
 | x::l,D,h=>qE0 l (by obtain ⟨es,rfl⟩:=h;exact ⟨_,rfl⟩)
theorem mP1 {a b:List UInt8} (h:a≠b):(Lit.string a)≠Lit.string b:=fun e=>h (by injection e)
theorem eP1 (a:List UInt8):WideAt.IsKeyLit (Lit.string a):=trivial
theorem oL0 (k:List UInt8) (z:DataW Unit):∀(l:List (List UInt8×DataW Unit)) {D:DataW Unit},(∃es,D=.map es)→(∀x∈l,x.1≠k)→(hY0 D l).atKey (.string k) z=D.atKey (.string k) z∧Maps.has (hY0 D l) (.string k)=Maps.has D (.string k)
 | [],_,_,_=>⟨rfl,rfl⟩
 | x::l,D,hD,h=>by
  have hx:k≠x.1:=fun e=>h x (List.mem_cons_self ..) e.symm
  obtain ⟨h1,h2⟩:=oL0 k z l (D:=D.put (.string x.1) x.2) (by obtain ⟨es,rfl⟩:=hD;exact ⟨_,rfl⟩) (fun y hy=>h y (List.mem_cons_of_mem _ hy));exact ⟨h1.trans (Maps.atKey_put_other (mP1 hx) _ _),h2.trans (Maps.has_put_other (mP1 hx) _)⟩
theorem aS1 (D:DataW Unit) (a b:List (List UInt8×DataW Unit)):hY0 D (a++b)=hY0 (hY0 D a) b:=List.foldl_append ..
theorem aT1 (k:List UInt8) (v z:DataW Unit) (a b:List (List UInt8×DataW Unit)) {D:DataW Unit} (hD:∃es,D=.map es) (h:∀x∈b,x.1≠k):(hY0 D (a++(k,v)::b)).atKey (.string k) z=v∧Maps.has (hY0 D (a++(k,v)::b)) (.string k)=true:=by
 rw [aS1];obtain ⟨es,he⟩:=qE0 a hD;obtain ⟨h1,h2⟩:=oL0 k z b (D:=(hY0 D a).put (.string k) v) (by rw [he];exact ⟨_,rfl⟩) h;exact ⟨h1.trans (Maps.atKey_put_same ⟨es,he⟩ (eP1 _) _ _),h2.trans (Maps.has_put_same ⟨es,he⟩ (eP1 _) _)⟩
def kQ0 (sb:Nat):List (List UInt8×DataW Unit):=[([116,97,98,108,101],fA0 (-1) 1 19 sb),
  ([98,97,110,100,115],fA0 (3) 1 20 sb),
  ([97,117,99,116,105,111,110],fA0 (2) 1 21 sb),
  ([115,116,97,114,116],fA0 (0) 1 22 sb),
  ([98,117,121],fA0 (4) 2 23 sb),
  ([115,101,108,108],fA0 (4) 2 24 sb),
  ([99,97,110,99,101,108],fA0 (1) 2 25 sb),
  ([116,105,99,107],fA0 (0) 2 26 sb),
  ([104,97,108,116],fA0 (0) 2 27 sb),
  ([111,112,101,110],fA0 (0) 2 28 sb),
  ([112,104,97,115,101],fA0 (0) 2 29 sb),
  ([113,117,111,116,101],fA0 (0) 2 30 sb),
  ([114,101,102,115],fA0 (0) 2 31 sb),
  ([111,114,100,101,114,115],fA0 (1) 2 32 sb),
  ([112,97,114,107,101,100],fA0 (0) 2 33 sb),
  ([98,97,110,100],fA0 (2) 0 34 sb),
  ([99,108,101,97,114],fA0 (0) 0 35 sb),
  ([104,101,108,112],fA0 (0) 0 36 sb)]
def cJ0 (w:World) (mb sb:Nat):Prop:=w.ownsMap Tryz.prog 9 rQ0 mb 18 (hY0 (.map []) (kQ0 sb))
theorem eQ1 {k:List UInt8} (h:tZ0 k=none):∀x∈kO0,x.1≠k:=fun x hx e=>by
 have:=List.findIdx?_eq_none_iff.1 h x hx;simp [e] at this
theorem qF0 (sb:Nat):(kQ0 sb).map Prod.fst=kO0.map Prod.fst:=rfl
theorem kI1 {k:List UInt8} (sb:Nat) (h:tZ0 k=none):∀x∈kQ0 sb,x.1≠k:=fun x hx e=>by
 have h1:x.1∈(kQ0 sb).map Prod.fst:=List.mem_map_of_mem hx;rw [qF0] at h1;obtain ⟨y,hy,e2⟩:=List.mem_map.1 h1;exact eQ1 h y hy (e2.trans e)
theorem gW0 {k:List UInt8} {d:Nat} (h:tZ0 k=some d):d<18∧k=gD0 d:=by
 obtain ⟨hd,h1,_⟩:=List.findIdx?_eq_some_iff_getElem.1 h;refine ⟨hd,?_⟩;have h2:=beq_iff_eq.1 h1;rw [←h2];unfold gD0;rw [List.getD_eq_getElem?_getD,List.getElem?_eq_getElem hd];rfl
theorem kJ1 (sb:Nat):∀d,d<18→(hY0 (.map []) (kQ0 sb)).atKey (.string (gD0 d)) deedZ=fA0 (dZ0 d) (gL0 d) (uB0.getD d 0) sb∧Maps.has (hY0 (.map []) (kQ0 sb)) (.string (gD0 d))=true:=by
 intro d hd
 have hb:∀(n:Nat) (hn:n<18),∀x∈(kQ0 sb).drop (n+1),x.1≠gD0 n:=by
  intro n hn x hx e;have h1:x.1∈((kQ0 sb).drop (n+1)).map Prod.fst:=List.mem_map_of_mem hx;rw [List.map_drop,qF0,e] at h1
  revert h1
  have:∀n,n<18→¬(gD0 n∈(kO0.map Prod.fst).drop (n+1)):=by decide
  exact this n hn
 have split:kQ0 sb=(kQ0 sb).take d++(gD0 d,fA0 (dZ0 d) (gL0 d) (uB0.getD d 0) sb)::(kQ0 sb).drop (d+1):=by
  have hl:d<(kQ0 sb).length:=hd
  have e:(kQ0 sb)[d]=(gD0 d,fA0 (dZ0 d) (gL0 d) (uB0.getD d 0) sb):=by
   match d,hd with
   | 0,_=>rfl
   | 1,_=>rfl
   | 2,_=>rfl
   | 3,_=>rfl
   | 4,_=>rfl
   | 5,_=>rfl
   | 6,_=>rfl
   | 7,_=>rfl
   | 8,_=>rfl
   | 9,_=>rfl
   | 10,_=>rfl
   | 11,_=>rfl
   | 12,_=>rfl
   | 13,_=>rfl
   | 14,_=>rfl
   | 15,_=>rfl
   | 16,_=>rfl
   | 17,_=>rfl
   | n+18,h=>exact absurd h (by omega)
  rw [←e,List.getElem_cons_drop,List.take_append_drop]
 rw [split];exact aT1 _ _ _ _ _ ⟨[],rfl⟩ (hb d hd)
section
variable {w w':World} {mb sb:Nat}
theorem cJ0.same (h:cJ0 w mb sb) (hb:w'.heap[mb]? = w.heap[mb]?):cJ0 w' mb sb:=qZ0 h hb
theorem cJ0.lt (h:cJ0 w mb sb):mb<w.heap.size:=World.ownsMap.lt h
theorem cJ0.look_yes (h:cJ0 w mb sb) {s:ByteArray} (hs:s.size≤maxLen) {d:Nat} (hd:tZ0 s.data.toList=some d):
  (Instr.lookup 37 (.map (some mb)) (.string s) true).run Tryz.prog w=.ok (.tuple #[kG1 (dZ0 d) (gL0 d) (uB0.getD d 0) sb,.bool true]) w:=by
 obtain ⟨h18,hk⟩:=gW0 hd;obtain ⟨v,ps,hr,hv⟩:=World.ownsMap.look_ok h Tryz.keyStr Tryz.underlying37 (Tryz.zeroDeed w) (zd:=deedZ) (zp:=[]) rfl (Tryz.keyStrAt hs);obtain ⟨h1,h2⟩:=kJ1 sb d h18;rw [hk,h1] at hv;rw [hr,hk,h2,eO1 hv]
theorem cJ0.look_no (h:cJ0 w mb sb) {s:ByteArray} (hs:s.size≤maxLen) (hd:tZ0 s.data.toList=none):
  (Instr.lookup 37 (.map (some mb)) (.string s) true).run Tryz.prog w=.ok (.tuple #[.agg #[.int .i64 0,.int .i64 0,.nilFunc],.bool false]) w:=by
 obtain ⟨v,ps,hr,hv⟩:=World.ownsMap.look_ok h Tryz.keyStr Tryz.underlying37 (Tryz.zeroDeed w) (zd:=deedZ) (zp:=[]) rfl (Tryz.keyStrAt hs);obtain ⟨h1,h2⟩:=oL0 s.data.toList deedZ (kQ0 sb) (D:=.map []) ⟨[],rfl⟩ (kI1 sb hd);rw [h1] at hv;have e:(DataW.map []).atKey (.string s.data.toList) deedZ=deedZ:=rfl;have e2:Maps.has (DataW.map (H:=Unit) []) (.string s.data.toList)=false:=rfl;rw [e] at hv;rw [hr,h2,e2,aR1 hv]
end
theorem bY0 {w:World} {mb n sb:Nat} {D:DataW Unit} (ho:w.ownsMap Tryz.prog 9 rQ0 mb n D) (hn:n<100) (s:ByteArray) (hs:s.size≤maxLen) (a b:Int) (f:Nat):
  ∃w',(Instr.mapUpdate 37 (.map (some mb)) (.string s) (.agg #[.int .i64 a,.int .i64 b,.func (.func f) #[.pointer (some ⟨sb,0,none⟩)] #[]])).run Tryz.prog w=.ok () w'
   ∧w'.ownsMap Tryz.prog 9 rQ0 mb (n+1) (D.put (.string s.data.toList) (fA0 a b f sb))∧w.grownBy w' (some mb):=
 ho.update Tryz.keyStr Tryz.underlying37 (by unfold maxLen;omega) (Tryz.keyStrAt hs) (kH1 a b f sb)
set_option maxRecDepth 8000 in
set_option maxHeartbeats 4000000 in
theorem oW1 (sb:Nat) (w:World):Calls Tryz.prog 8 #[.pointer (some ⟨sb,0,none⟩)] w fun e w'=>e=.returned (.map (some w.heap.size))∧cJ0 w' w.heap.size sb∧Below w.heap.size w w':=by
 have hmm:=@run_makeMap Tryz.prog;have hmf:∀(fn:Fn) (first cap:Array Value) (w:World),(Instr.makeFunc fn first cap).run Tryz.prog w=.ok (.func fn first cap) w:=fun _ _ _ _=>rfl
 have h0:=World.ownsMap_made w Tryz.prog 9 rQ0;obtain ⟨w1,r1,o1,g1⟩:=bY0 (sb:=sb) h0 (by omega) ⟨#[116,97,98,108,101]⟩ (by decide) (-1) 1 19;obtain ⟨w2,r2,o2,g2⟩:=bY0 (sb:=sb) o1 (by omega) ⟨#[98,97,110,100,115]⟩ (by decide) (3) 1 20;obtain ⟨w3,r3,o3,g3⟩:=bY0 (sb:=sb) o2 (by omega) ⟨#[97,117,99,116,105,111,110]⟩ (by decide) (2) 1 21;obtain ⟨w4,r4,o4,g4⟩:=bY0 (sb:=sb) o3 (by omega) ⟨#[115,116,97,114,116]⟩ (by decide) (0) 1 22;obtain ⟨w5,r5,o5,g5⟩:=bY0 (sb:=sb) o4 (by omega) ⟨#[98,117,121]⟩ (by decide) (4) 2 23;obtain ⟨w6,r6,o6,g6⟩:=bY0 (sb:=sb) o5 (by omega) ⟨#[115,101,108,108]⟩ (by decide) (4) 2 24;obtain ⟨w7,r7,o7,g7⟩:=bY0 (sb:=sb) o6 (by omega) ⟨#[99,97,110,99,101,108]⟩ (by decide) (1) 2 25;obtain ⟨w8,r8,o8,g8⟩:=bY0 (sb:=sb) o7 (by omega) ⟨#[116,105,99,107]⟩ (by decide) (0) 2 26;obtain ⟨w9,r9,o9,g9⟩:=bY0 (sb:=sb) o8 (by omega) ⟨#[104,97,108,116]⟩ (by decide) (0) 2 27;obtain ⟨w10,r10,o10,g10⟩:=bY0 (sb:=sb) o9 (by omega) ⟨#[111,112,101,110]⟩ (by decide) (0) 2 28;obtain ⟨w11,r11,o11,g11⟩:=bY0 (sb:=sb) o10 (by omega) ⟨#[112,104,97,115,101]⟩ (by decide) (0) 2 29;obtain ⟨w12,r12,o12,g12⟩:=bY0 (sb:=sb) o11 (by omega) ⟨#[113,117,111,116,101]⟩ (by decide) (0) 2 30;obtain ⟨w13,r13,o13,g13⟩:=bY0 (sb:=sb) o12 (by omega) ⟨#[114,101,102,115]⟩ (by decide) (0) 2 31;obtain ⟨w14,r14,o14,g14⟩:=bY0 (sb:=sb) o13 (by omega) ⟨#[111,114,100,101,114,115]⟩ (by decide) (1) 2 32;obtain ⟨w15,r15,o15,g15⟩:=bY0 (sb:=sb) o14 (by omega) ⟨#[112,97,114,107,101,100]⟩ (by decide) (0) 2 33;obtain ⟨w16,r16,o16,g16⟩:=bY0 (sb:=sb) o15 (by omega) ⟨#[98,97,110,100]⟩ (by decide) (2) 0 34;obtain ⟨w17,r17,o17,g17⟩:=bY0 (sb:=sb) o16 (by omega) ⟨#[99,108,101,97,114]⟩ (by decide) (0) 0 35;obtain ⟨w18,r18,o18,g18⟩:=bY0 (sb:=sb) o17 (by omega) ⟨#[104,101,108,112]⟩ (by decide) (0) 0 36;have hF:Hid (cJ0 w18 w.heap.size sb):=o18;have one:∀{a b:World},a.grownBy b (some w.heap.size)→w.heap.size≤a.heap.size→Below w.heap.size a b:=fun {a b} g hs=>(Below.refl _ a).grown g hs (fun k hk=>by injection hk with e;omega)
 have b0:Below w.heap.size w (w.alloc (.map #[] 0)):=(Below.refl _ w).alloc lR7 _;have b1:=b0.trans (one g1 b0.size);have b2:=b1.trans (one g2 b1.size);have b3:=b2.trans (one g3 b2.size);have b4:=b3.trans (one g4 b3.size);have b5:=b4.trans (one g5 b4.size);have b6:=b5.trans (one g6 b5.size);have b7:=b6.trans (one g7 b6.size);have b8:=b7.trans (one g8 b7.size);have b9:=b8.trans (one g9 b8.size);have b10:=b9.trans (one g10 b9.size);have b11:=b10.trans (one g11 b10.size);have b12:=b11.trans (one g12 b11.size);have b13:=b12.trans (one g13 b12.size);have b14:=b13.trans (one g14 b13.size);have b15:=b14.trans (one g15 b14.size);have b16:=b15.trans (one g16 b15.size);have b17:=b16.trans (one g17 b16.size);have b18:=b17.trans (one g18 b17.size);have hB:Hid (Below w.heap.size w w18):=b18;clear o1 g1 b1 o2 g2 b2 o3 g3 b3 o4 g4 b4 o5 g5 b5 o6 g6 b6 o7 g7 b7 o8 g8 b8 o9 g9 b9 o10 g10 b10 o11 g11 b11 o12 g12 b12 o13 g13 b13 o14 g14 b14 o15 g15 b15 o16 g16 b16 o17 g17 b17 o18 g18 b18 b0 h0 one;go_enter Tryz.func8,Tryz.ntmps8;go_wp2;go_ret;exact ⟨rfl,hF.out,hB.out⟩
def eatL:Int→List Ord→List Ord
 | _,[]=>[]
 | n,x::T=>if n<x.qty then (if n≤0 then x::T else cutO n x::T) else eatL (n - x.qty) T
theorem kR0:∀{Z:List Ord},(∀o∈Z,1≤o.qty)→eatL 0 Z=Z
 | [],_=>rfl
 | x::T,h=>by
  have:=h x (List.mem_cons_self ..);rw [eatL,if_pos (by omega),if_pos (by omega)]
theorem rR0:∀{Z:List Ord} {n0 n:Int} {x:Ord} {T:List Ord},(∀o∈Z,1≤o.qty)→0≤n0→eatL n0 Z=x::T→1≤n→n≤x.qty→eatL (n0+n) Z=if x.qty=n then T else cutO n x::T
 | [],_,_,_,_,_,_,h,_,_=>by cases h
 | z::Z,n0,n,x,T,hz,h0,h,h1,h2=>by
  have hz1:=hz z (List.mem_cons_self ..);have hzs:∀o∈Z,1≤o.qty:=fun o ho=>hz o (List.mem_cons_of_mem _ ho)
  rw [eatL] at h ⊢
  by_cases hn:n0<z.qty
  ·rw [if_pos hn] at h
   by_cases hn0:n0≤0
   ·obtain rfl:n0=0:=by omega
    rw [if_pos hn0] at h;injection h with e1 e2;subst e1 e2;rw [Int.zero_add]
    by_cases e:z.qty=n
    ·rw [if_neg (by omega),if_pos e,show n - z.qty=0 by omega,kR0 hzs]
    ·rw [if_pos (by omega),if_neg (by omega),if_neg e]
   ·rw [if_neg hn0] at h;injection h with e1 e2;subst e1 e2;have hq:(cutO n0 z).qty=z.qty - n0:=rfl;rw [hq] at h2 ⊢
    by_cases e:z.qty - n0=n
    ·rw [if_neg (by omega),if_pos e,show n0+n - z.qty=0 by omega,kR0 hzs]
    ·rw [if_pos (by omega),if_neg (by omega),if_neg e]
     congr 1
     show ({ z with qty:=z.qty - (n0+n) }:Ord)={ z with qty:=z.qty - n0 - n };rw [Int.sub_sub]
  ·rw [if_neg hn] at h;rw [if_neg (by omega),show n0+n - z.qty=n0 - z.qty+n by omega];exact rR0 hzs (by omega) h h1 h2
theorem eR1 {p:Int} {s:FS} (h:FOk p s):∀k,(∀j,j<k→0<(aQ0 p s j).q)→0≤(aQ0 p s k).q∧(aQ0 p s k).q≤s.q
 | 0,_=>⟨h.nn,Int.le_refl _⟩
 | k+1,hq=>by
  have h1:=gH0 h (k+1) hq;obtain ⟨_,h2⟩:=eR1 h k (fun j hj=>hq j (by omega));obtain ⟨⟨x,T,y,U,hr⟩,_⟩:=hK0 (gH0 h k (fun j hj=>hq j (by omega))) (hq k (by omega));have n1:=hr.2.2.2.2.2.2.2.1;have e:(aQ0 p s (k+1)).q=(aQ0 p s k).q - lotN (aQ0 p s k):=rfl;exact ⟨h1.nn,by omega⟩
theorem uC0 {p:Int} {s:FS} (h:FOk p s):∀k,(∀j,j<k→0<(aQ0 p s j).q)→aK0 1 (aQ0 p s k).L=eatL (s.q - (aQ0 p s k).q) (aK0 1 s.L)∧aK0 2 (aQ0 p s k).L=eatL (s.q - (aQ0 p s k).q) (aK0 2 s.L)
 | 0,_=>by
  have hq:∀t,∀o∈aK0 t s.L,1≤o.qty:=fun t o ho=>(h.ok.ok o (aP0.1 ho).1).2.2.1
  show aK0 1 s.L=eatL (s.q - s.q) _∧aK0 2 s.L=eatL (s.q - s.q) _;rw [Int.sub_self,kR0 (hq 1),kR0 (hq 2)];exact ⟨rfl,rfl⟩
 | k+1,hq=>by
  have hk:∀j,j<k→0<(aQ0 p s j).q:=fun j hj=>hq j (by omega)
  have hz:∀t,∀o∈aK0 t s.L,1≤o.qty:=fun t o ho=>(h.ok.ok o (aP0.1 ho).1).2.2.1
  obtain ⟨i1,i2⟩:=uC0 h k hk;have hb:=eR1 h k hk;have hO:=gH0 h k hk;obtain ⟨⟨x,T,y,U,hS1,hS2,_,_,hxL,hyL,_,n1,n2,n3,n4,_,hL,_,_,ok1⟩,_⟩:=hK0 hO (hq k (by omega));have e:(aQ0 p s (k+1)).q=(aQ0 p s k).q - lotN (aQ0 p s k):=rfl;have eL:(aQ0 p s (k+1)).L=bE0 y.id (lotN (aQ0 p s k)) (bE0 x.id (lotN (aQ0 p s k)) (aQ0 p s k).L):=hL;rw [e,eL,show s.q - ((aQ0 p s k).q - lotN (aQ0 p s k))=s.q - (aQ0 p s k).q+lotN (aQ0 p s k) by omega];rw [hS1] at i1;rw [hS2] at i2;have hx1:x∈aK0 1 (aQ0 p s k).L:=by rw [hS1];exact List.mem_cons_self ..
  have s2:aK0 2 (bE0 x.id (lotN (aQ0 p s k)) (aQ0 p s k).L)=y::U:=(lG0 hO.ok hx1 (by decide)).trans hS2;have hy2:y∈aK0 2 (bE0 x.id (lotN (aQ0 p s k)) (aQ0 p s k).L):=by rw [s2];exact List.mem_cons_self ..
  refine ⟨?_,?_⟩
  ·rw [lG0 ok1 hy2 (by decide),tH0 hO.ok hS1 n3,rR0 (hz 1) (by omega) i1.symm n1 n3]
  ·rw [tH0 ok1 s2 n4,rR0 (hz 2) (by omega) i2.symm n1 n4]
def sumO:List Ord→Int
 | []=>0
 | o::T=>o.qty+sumO T
theorem eS1:∀{l:List Ord},(∀o∈l,1≤o.qty)→0≤sumO l
 | [],_=>Int.le_refl _
 | o::T,h=>by
  have:=eS1 (l:=T) (fun x hx=>h x (List.mem_cons_of_mem _ hx));have:=h o (List.mem_cons_self ..);rw [sumO];omega
section
variable {p q:Int} {L:List Ord} {k:Nat}
end
theorem kK1 {L:List Ord} (h:LOk L) {s p:Int} (hs:s=1∨s=2) {x o:Ord} (hx:x∈L) (ho:o∈L) (hr:eI0 s x≤eI0 s o) (hw:wilB s p o=true):wilB s p x=true:=by
 have px:=h.ok x hx;have po:=h.ok o ho;unfold eI0 cP1 at hr;unfold wilB at hw ⊢
 by_cases kx:x.kind=2
 ·rw [kx];rfl
 ·rw [if_neg kx] at hr
  by_cases ko:o.kind=2
  ·rw [if_pos ko] at hr;split at hr <;> omega
  ·rw [if_neg ko] at hr;have kob:(o.kind == 2)=false:=beq_eq_false_iff_ne.2 ko;have kxb:(x.kind == 2)=false:=beq_eq_false_iff_ne.2 kx;rw [kob,Bool.false_or] at hw;rw [kxb,Bool.false_or];rcases hs with rfl | rfl
   ·rw [if_pos rfl,if_pos rfl] at hr;simp at hw ⊢;omega
   ·rw [if_neg (by decide),if_neg (by decide)] at hr;simp at hw ⊢;omega
theorem eT1 {s p:Int} {l l':List Ord} (h:l.Perm l'):wilL s p l=wilL s p l':=by
 induction h with
 | nil=>rfl
 | cons x _ ih=>rw [bD0,bD0,ih]
 | swap x y l=>rw [bD0,bD0,bD0,bD0];omega
 | trans _ _ i1 i2=>exact i1.trans i2
theorem oM0 {s p:Int}:∀l:List Ord,wilL s p (cR0 s l)=wilL s p l
 | []=>rfl
 | o::T=>by
  have ih:=oM0 (s:=s) (p:=p) T;unfold cR0 at ih ⊢
  by_cases hf:(o.side == s)=true
  ·rw [List.filter_cons_of_pos (p:=fun x:Ord=>x.side == s) hf,bD0,bD0,ih]
  ·rw [List.filter_cons_of_neg (p:=fun x:Ord=>x.side == s) hf,bD0,ih,if_neg (by simp only [Bool.and_eq_true];exact fun e=>hf e.1),Int.zero_add]
theorem eU1 (s p:Int) (l:List Ord):wilL s p (aK0 s l)=wilL s p l:=
 (eT1 (dO0 (eI0 s) (cR0 s l))).trans (oM0 l)
theorem eV1 {s p:Int}:∀{l:List Ord},(∀o∈l,1≤o.qty)→0≤wilL s p l
 | [],_=>by simp [wilL]
 | o::T,h=>by
  have:=eV1 (s:=s) (p:=p) (l:=T) (fun x hx=>h x (List.mem_cons_of_mem _ hx));have:=h o (List.mem_cons_self ..);rw [bD0];split <;> omega
theorem qG0 {s p:Int}:∀{A T:List Ord} {o:Ord},(∀x∈A++o::T,1≤x.qty)→(∀x∈A,(x.side == s&& wilB s p x)=true)→(o.side == s&& wilB s p o)=true→sumO A+o.qty≤wilL s p (A++o::T)
 | [],T,o,hq,_,ho=>by
  have:=eV1 (s:=s) (p:=p) (l:=T) (fun x hx=>hq x (by rw [List.nil_append];exact List.mem_cons_of_mem _ hx));rw [List.nil_append,bD0,if_pos ho,sumO];omega
 | a::A,T,o,hq,hA,ho=>by
  have ih:=qG0 (A:=A) (T:=T) (fun x hx=>hq x (List.mem_cons_of_mem _ hx)) (fun x hx=>hA x (List.mem_cons_of_mem _ hx)) ho;rw [List.cons_append,bD0,if_pos (hA a (List.mem_cons_self ..)),sumO];omega
theorem kS0 {L:List Ord} (h:LOk L) {s p q:Int} (hs:s=1∨s=2) (h0:0≤q) {y:Ord} (hy:y∈eatL q (aK0 s L)):∃o∈L,o.side=s∧o.kind=y.kind∧o.price=y.price∧(wilB s p o=true→q<wilL s p L):=by
 have key:∀{Z:List Ord} {n:Int},(∀x∈Z,1≤x.qty)→0≤n→y∈eatL n Z→∃A o T,Z=A++o::T∧o.kind=y.kind∧o.price=y.price∧n<sumO A+o.qty:=by
  intro Z
  induction Z with
  | nil=>intro n _ _ hy;cases hy
  | cons z Z ih=>
   intro n hz hn hy;have hz1:=hz z (List.mem_cons_self ..);have hzs:∀x∈Z,1≤x.qty:=fun x hx=>hz x (List.mem_cons_of_mem _ hx)
   have hin:y∈Z→n<z.qty→∃A o T,z::Z=A++o::T∧o.kind=y.kind∧o.price=y.price∧n<sumO A+o.qty:=fun hyZ hlt=>by
    obtain ⟨A,T,e⟩:=List.append_of_mem hyZ;subst e;have hA:0≤sumO A:=eS1 (fun x hx=>hzs x (List.mem_append_left _ hx));have hy1:=hzs y hyZ;exact ⟨z::A,y,T,rfl,rfl,rfl,by rw [sumO];omega⟩
   rw [eatL] at hy
   by_cases h1:n<z.qty
   ·rw [if_pos h1] at hy
    by_cases h2:n≤0
    ·rw [if_pos h2] at hy;rcases List.mem_cons.1 hy with e | hyZ
     ·subst e;exact ⟨[],y,Z,rfl,rfl,rfl,by rw [sumO];omega⟩
     ·exact hin hyZ h1
    ·rw [if_neg h2] at hy;rcases List.mem_cons.1 hy with e | hyZ
     ·subst e;exact ⟨[],z,Z,rfl,rfl,rfl,by rw [sumO];omega⟩
     ·exact hin hyZ h1
   ·rw [if_neg h1] at hy;obtain ⟨A,o,T,e,k1,k2,k3⟩:=ih hzs (by omega) hy;exact ⟨z::A,o,T,by rw [e];rfl,k1,k2,by rw [sumO];omega⟩
 have hqs:∀x∈aK0 s L,1≤x.qty:=fun x hx=>(h.ok x (aP0.1 hx).1).2.2.1
 obtain ⟨A,o,T,e,k1,k2,k3⟩:=key hqs h0 hy;have hoS:o∈aK0 s L:=by rw [e];exact List.mem_append_right _ (List.mem_cons_self ..)
 obtain ⟨hoL,hos⟩:=aP0.1 hoS;refine ⟨o,hoL,hos,k1,k2,fun hw=>?_⟩;have hsrt:=gP0 (rank:=eI0 s) (cR0 s L);rw [show lF0 (eI0 s) (cR0 s L)=A++o::T from e,List.pairwise_append] at hsrt
 have hf:sumO A+o.qty≤wilL s p (A++o::T):=qG0 (fun x hx=>hqs x (by rw [e];exact hx)) (fun x hx=>by
  have hxS:x∈aK0 s L:=by rw [e];exact List.mem_append_left _ hx
  obtain ⟨hxL,hxs⟩:=aP0.1 hxS;rw [Bool.and_eq_true];exact ⟨beq_iff_eq.2 hxs,kK1 h hs hxL hoL (hsrt.2.2 x hx o (List.mem_cons_self ..)) hw⟩) (by rw [Bool.and_eq_true];exact ⟨beq_iff_eq.2 hos,hw⟩)
 rw [←e,eU1] at hf;omega
theorem uD0 {L:List Ord} (h:LOk L) {q:Int} (h0:0≤q) (hb:∀p,1≤p→p≤1000000→min (wilL 1 p L) (wilL 2 p L)≤q) {x y:Ord} (hx:x∈eatL q (aK0 1 L)) (hy:y∈eatL q (aK0 2 L)):¬(x.kind=2∨y.kind=2∨y.price≤x.price):=fun ht=>by
 have most:∀p,1≤p→p≤1000000→(x.kind=2∨p≤x.price)→(y.kind=2∨y.price≤p)→False:=fun p p1 p2 c1 c2=>by
  obtain ⟨o,_,_,k1,k2,k3⟩:=kS0 (p:=p) h (Or.inl rfl) h0 hx;obtain ⟨z,_,_,j1,j2,j3⟩:=kS0 (p:=p) h (Or.inr rfl) h0 hy;have a1:=k3 (by unfold wilB;rw [k1,k2];rcases c1 with c | c <;> simp [c]);have a2:=j3 (by unfold wilB;rw [j1,j2];rcases c2 with c | c <;> simp [c]);have:=hb p p1 p2;omega
 obtain ⟨o,hoL,_,_,k2,_⟩:=kS0 (p:=1) h (Or.inl rfl) h0 hx;obtain ⟨z,hzL,_,_,j2,_⟩:=kS0 (p:=1) h (Or.inr rfl) h0 hy;have po:=h.ok o hoL;have pz:=h.ok z hzL;rcases ht with c | c | c
 ·exact most y.price (by omega) (by omega) (Or.inl c) (Or.inr (Int.le_refl _))
 ·exact most x.price (by omega) (by omega) (Or.inr (Int.le_refl _)) (Or.inl c)
 ·exact most y.price (by omega) (by omega) (Or.inr c) (Or.inr (Int.le_refl _))
theorem mQ1 {l:List Ord} {f g:Ord→Bool} (h:∀o∈l,f o=true→g o=true) (hq:∀o∈l,g o=true→0≤o.qty):(l.map fun o=>if f o=true then o.qty else 0).sum≤(l.map fun o=>if g o=true then o.qty else 0).sum:=by
 induction l with
 | nil=>simp
 | cons o l ih=>
  have ih':=ih (fun o ho=>h o (List.mem_cons_of_mem _ ho)) (fun o ho=>hq o (List.mem_cons_of_mem _ ho));have h1:=h o (List.mem_cons_self ..);have h2:=hq o (List.mem_cons_self ..);rw [List.map_cons,List.map_cons,List.sum_cons,List.sum_cons]
  by_cases hf:f o=true
  ·rw [if_pos hf,if_pos (h1 hf)];omega
  ·rw [if_neg hf]
   by_cases hg:g o=true
   ·rw [if_pos hg];have:=h2 hg;omega
   ·rw [if_neg hg];omega
theorem mR1 {l:List Ord} {p q:Int} (h:∀o∈l,iG0 p o=true→iG0 q o=true):demO p l≤demO q l:=
 mQ1 h (fun o _ hb=>by have:=(jP0 (yE0 hb)).2;omega)
theorem mS1 {l:List Ord} {p q:Int} (h:∀o∈l,eX0 p o=true→eX0 q o=true):supO p l≤supO q l:=
 mQ1 h (fun o _ hb=>by have:=(jP0 (tN0 hb)).2;omega)
theorem uE0 (p:Int):∀l:List Int,(∀x∈l,p<x)∨∃q∈l,q≤p∧∀x∈l,x≤p→x≤q
 | []=>Or.inl (fun x hx=>by cases hx)
 | y::l=>by
  rcases uE0 p l with h | ⟨q,hq,h1,h2⟩
  ·by_cases hy:y≤p
   ·refine Or.inr ⟨y,List.mem_cons_self ..,hy,fun x hx hxp=>?_⟩;rw [List.mem_cons] at hx;rcases hx with rfl | hx
    ·exact Int.le_refl _
    ·have:=h x hx;omega
   ·refine Or.inl (fun x hx=>?_);rw [List.mem_cons] at hx;rcases hx with rfl | hx
    ·omega
    ·exact h x hx
  ·by_cases hy:y≤p∧q≤y
   ·refine Or.inr ⟨y,List.mem_cons_self ..,hy.1,fun x hx hxp=>?_⟩;rw [List.mem_cons] at hx;rcases hx with rfl | hx
    ·exact Int.le_refl _
    ·have:=h2 x hx hxp;omega
   ·refine Or.inr ⟨q,List.mem_cons_of_mem _ hq,h1,fun x hx hxp=>?_⟩;rw [List.mem_cons] at hx;rcases hx with rfl | hx
    ·omega
    ·exact h2 x hx hxp
theorem yQ0:∀l:List Int,l≠[]→∃q∈l,∀x∈l,q≤x
 | [],h=>absurd rfl h
 | [y],_=>⟨y,List.mem_cons_self ..,fun x hx=>by rw [List.mem_singleton] at hx;omega⟩
 | y::z::l,_=>by
  obtain ⟨q,hq,h1⟩:=yQ0 (z::l) (by simp)
  by_cases hy:y≤q
  ·refine ⟨y,List.mem_cons_self ..,fun x hx=>?_⟩;rw [List.mem_cons] at hx;rcases hx with rfl | hx
   ·exact Int.le_refl _
   ·have:=h1 x hx;omega
  ·refine ⟨q,List.mem_cons_of_mem _ hq,fun x hx=>?_⟩;rw [List.mem_cons] at hx;rcases hx with rfl | hx
   ·omega
   ·exact h1 x hx
theorem kT0 {p:Int} {o:Ord}:iG0 p o=true↔(okO o=true∧o.side=1∧(o.kind=2∨p≤o.price)):=by unfold iG0;simp
theorem iY0 {p:Int} {o:Ord}:eX0 p o=true↔(okO o=true∧o.side=2∧(o.kind=2∨o.price≤p)):=by unfold eX0;simp
theorem oN0 {l:List Ord} {more:Int} {o:Ord} (ho:o∈l) (h:okO o=true) (hk:¬o.kind=2):o.price∈aW0 l more:=
 cF0.2 (Or.inr ⟨o,ho,by unfold dP0;simp [h,hk],rfl⟩)
theorem aU1 {l:List Ord} {more:Int} (p:Int) (hne:aW0 l more≠[]):∃q∈aW0 l more,demO p l≤demO q l∧supO p l≤supO q l:=by
 rcases uE0 p (aW0 l more) with h | ⟨q,hq,h1,h2⟩
 ·obtain ⟨q,hq,h1⟩:=yQ0 _ hne;refine ⟨q,hq,mR1 fun o ho hb=>?_,mS1 fun o ho hb=>?_⟩
  ·obtain ⟨a1,a2,a3⟩:=kT0.1 hb;refine kT0.2 ⟨a1,a2,?_⟩
   by_cases hk:o.kind=2
   ·exact Or.inl hk
   ·exact Or.inr (h1 _ (oN0 ho a1 hk))
  ·obtain ⟨a1,a2,a3⟩:=iY0.1 hb;refine iY0.2 ⟨a1,a2,?_⟩
   by_cases hk:o.kind=2
   ·exact Or.inl hk
   ·have:=h _ (oN0 (more:=more) ho a1 hk);rcases a3 with a3 | a3
    ·exact absurd a3 hk
    ·omega
 ·refine ⟨q,hq,mR1 fun o ho hb=>?_,mS1 fun o ho hb=>?_⟩
  ·obtain ⟨a1,a2,a3⟩:=kT0.1 hb;exact kT0.2 ⟨a1,a2,a3.imp id (fun h=>by omega)⟩
  ·obtain ⟨a1,a2,a3⟩:=iY0.1 hb;refine iY0.2 ⟨a1,a2,?_⟩
   by_cases hk:o.kind=2
   ·exact Or.inl hk
   ·rcases a3 with a3 | a3
    ·exact absurd a3 hk
    ·exact Or.inr (h2 _ (oN0 ho a1 hk) a3)
theorem eW1 {l:List Ord} {more q:Int} (h:q∈aW0 l more):(⟨q,demO q l,supO q l⟩:Pt)∈aM0 l more:=
 List.mem_map.2 ⟨q,by rw [iI0 (cN0 _),fX0];exact h,rfl⟩
theorem yR0 {l:List Ord} {more:Int} {x:Pt} (h:x∈aM0 l more):x.dem=demO x.price l∧x.sup=supO x.price l∧x.price∈aW0 l more:=by
 obtain ⟨q,hq,rfl⟩:=List.mem_map.1 h;rw [iI0 (cN0 _),fX0] at hq;exact ⟨rfl,rfl,hq⟩
theorem lP0 (l:List Pt) (around:Int):(aJ0 l around).qty=(if dA0 l<1 then 0 else dA0 l):=by
 unfold aJ0
 by_cases h:dA0 l<1
 ·rw [if_pos h,if_pos h]
 ·rw [if_neg h,if_neg h];exact (lN0 around (by omega)).2
theorem qH0 {l:List Ord} {more:Int} (around p:Int) (hne:aW0 l more≠[]):min (demO p l) (supO p l)≤(aJ0 (aM0 l more) around).qty:=by
 obtain ⟨q,hq,h1,h2⟩:=aU1 (l:=l) (more:=more) p hne;have h3:trB ⟨q,demO q l,supO q l⟩≤dA0 (aM0 l more):=oA0 (eW1 hq);have h4:trB ⟨q,demO q l,supO q l⟩=min (demO q l) (supO q l):=rfl;rw [lP0];split <;> omega
theorem qI0 {l:List Ord} {more:Int} (around:Int) (h:0<(aJ0 (aM0 l more) around).qty):
  (aJ0 (aM0 l more) around).qty=min (demO (aJ0 (aM0 l more) around).price l) (supO (aJ0 (aM0 l more) around).price l)∧(aJ0 (aM0 l more) around).sur=demO (aJ0 (aM0 l more) around).price l - supO (aJ0 (aM0 l more) around).price l:=by
 have hm:¬dA0 (aM0 l more)<1:=fun e=>by
  rw [lP0,if_pos e] at h;omega
 have hc:aJ0 (aM0 l more) around=quoP (jQ0 (aM0 l more) around):=if_neg hm;obtain ⟨h1,_⟩:=lN0 (l:=aM0 l more) around (by omega);obtain ⟨e1,e2,_⟩:=yR0 h1;rw [hc];unfold quoP trB;dsimp only;rw [e1,e2];exact ⟨rfl,rfl⟩
theorem wK0 {l:List Ord} {more:Int} (hl:l.length≤1000) (hp:∀o∈l,-1099511627776≤o.price∧o.price≤1099511627776) (hm:more≤1099511627776):∀x∈aM0 l more,x.Small:=fun x hx=>by
 obtain ⟨e1,e2,h3⟩:=yR0 hx;have a1:=vZ0 x.price l;have a2:=wA0 x.price l;refine ⟨?_,by rw [e1];omega,by rw [e2];omega⟩;rcases cF0.1 h3 with ⟨h4,h5⟩ | ⟨o,ho,_,h5⟩
 ·omega
 ·rw [←h5];exact hp o ho
theorem eX1 (l:List Ord) (more:Int):(aM0 l more).length≤l.length+1:=by
 unfold aM0 tO0;rw [List.length_map];have h1:=tP0 (fO0 (aW0 l more)) (fO0 (aW0 l more)).length;have h2:=iH0 (aW0 l more);have h3:=wB0 l more;omega
theorem eY1 {l:List Ord} (h:LOk l) {o:Ord} (ho:o∈l):okO o=true:=by
 have h1:=h.side o ho;have h2:=h.ok o ho;unfold okO inC;simp only [Bool.and_eq_true,decide_eq_true_iff];omega
theorem wL0 {p:Int} {l:List Ord} (h:LOk l):demO p l=wilL 1 p l:=by
 unfold demO wilL
 congr 1
 refine List.map_congr_left (fun o ho=>?_)
 have e:iG0 p o=(o.side == 1&& wilB 1 p o):=by
  unfold iG0 wilB;rw [eY1 h ho];rcases h.side o ho with e | e <;> simp [e]
 rw [e]
theorem wM0 {p:Int} {l:List Ord} (h:LOk l):supO p l=wilL 2 p l:=by
 unfold supO wilL
 congr 1
 refine List.map_congr_left (fun o ho=>?_)
 have e:eX0 p o=(o.side == 2&& wilB 2 p o):=by
  unfold eX0 wilB;rw [eY1 h ho];rcases h.side o ho with e | e <;> simp [e]
 rw [e]
theorem fB0 {l:List Ord} {more:Int} (around:Int) (h:LOk l) (hq:0<(aJ0 (aM0 l more) around).qty):FOk (aJ0 (aM0 l more) around).price ⟨[],l,(aJ0 (aM0 l more) around).qty⟩:=by
 obtain ⟨e,_⟩:=qI0 around hq;rw [wL0 h,wM0 h] at e;exact ⟨h,by show 0≤(aJ0 (aM0 l more) around).qty;omega,by show (aJ0 (aM0 l more) around).qty≤wilL 1 _ l;omega,by show (aJ0 (aM0 l more) around).qty≤wilL 2 _ l;omega⟩
theorem uF0 {l:List Ord} {more:Int} (around:Int) (h:LOk l) (hne:aW0 l more≠[]) {k:Nat} (hq:0<(aJ0 (aM0 l more) around).qty) (hk:∀j,j<k→0<(aQ0 (aJ0 (aM0 l more) around).price ⟨[],l,(aJ0 (aM0 l more) around).qty⟩ j).q) (hz:(aQ0 (aJ0 (aM0 l more) around).price ⟨[],l,(aJ0 (aM0 l more) around).qty⟩ k).q=0) {x y:Ord}
  (hx:x∈aK0 1 (aQ0 (aJ0 (aM0 l more) around).price ⟨[],l,(aJ0 (aM0 l more) around).qty⟩ k).L) (hy:y∈aK0 2 (aQ0 (aJ0 (aM0 l more) around).price ⟨[],l,(aJ0 (aM0 l more) around).qty⟩ k).L):¬(x.kind=2∨y.kind=2∨y.price≤x.price):=by
 have hb:∀p,min (demO p l) (supO p l)≤(aJ0 (aM0 l more) around).qty:=fun p=>qH0 around p hne
 have hF:=fB0 around h hq;generalize aJ0 (aM0 l more) around=c at *;obtain ⟨e1,e2⟩:=uC0 hF k hk;rw [hz] at e1 e2;rw [e1] at hx;rw [e2] at hy;have ec:(⟨[],l,c.qty⟩:FS).q - 0=c.qty:=Int.sub_zero _;rw [ec] at hx hy;exact uD0 h (by omega) (fun p _ _=>by rw [←wL0 h,←wM0 h];exact hb p) hx hy
def uncA (m:Mkt):List Fil×Mkt:=
 if 0<(aG0 m).qty then ((gT0 (aG0 m).price (aG0 m).qty m.L).fs,{ m with L:=(gT0 (aG0 m).price (aG0 m).qty m.L).L,an:=(aG0 m).price,la:=(aG0 m).price }) else ([],m)
theorem eZ1 (m:Mkt):uncM m=((uncA m).1,{ (uncA m).2 with L:=limL (uncA m).2.L }):=by
 unfold uncM uncA;split <;> rfl
theorem uG0 {p:Int}:∀(n:Nat) {s:FS},FOk p s→FOk p (gI0 p n s)∧(gI0 p n s).L.length≤s.L.length
 | 0,_,h=>⟨h,lR7⟩
 | n+1,s,h=>by
  unfold gI0
  by_cases hq:s.q≤0
  ·rw [if_pos hq];exact ⟨h,lR7⟩
  ·rw [if_neg hq];obtain ⟨⟨x,T,y,U,_,_,_,_,_,_,_,_,_,_,_,_,e,_,_,_⟩,h1⟩:=hK0 h (by omega);have h2:=uG0 n h1;refine ⟨h2.1,Nat.le_trans h2.2 ?_⟩;rw [e];have a1:=List.length_filter_le (fun o:Ord=>decide (0<o.qty)) ((bE0 x.id (lotN s) s.L).map (cutF y.id (lotN s)));have a2:=List.length_filter_le (fun o:Ord=>decide (0<o.qty)) (s.L.map (cutF x.id (lotN s)));rw [List.length_map] at a1 a2;exact Nat.le_trans a1 a2
theorem oX1 {m:Mkt} (h:LOk m.L):LOk (uncA m).2.L∧(uncA m).2.L.length≤m.L.length:=by
 unfold uncA;split
 ·rename_i hq;have h1:=uG0 (m.L.length+1) (fB0 (more:=m.la) m.la h hq);exact ⟨h1.1.ok,h1.2⟩
 ·exact ⟨h,lR7⟩
theorem rJ1 {p r:Int} (h:hasB (folL p) r=true):¬r=p:=by
 intro e;subst e;unfold folL at h;split at h
 ·rename_i e;subst e;exact absurd h (by decide)
 split at h
 ·rename_i e;subst e;exact absurd h (by decide)
 split at h
 ·rename_i e;subst e;exact absurd h (by decide)
 split at h
 ·rename_i e;subst e;exact absurd h (by decide)
 ·cases h
theorem oO0 {p r:Int×Int} (h:rowE p r=0):¬r.2=p.2∧p.1<r.1:=by
 unfold rowE jF0 at h;split at h
 ·rename_i h1;refine ⟨rJ1 h1,?_⟩;split at h
  ·cases h
  ·omega
 ·cases h
theorem kU0 {p r:Int×Int} {rs:List (Int×Int)} {k:Nat} (h:eW0 p k (r::rs)=(0,-1)):rowE p r=0∧eW0 r (k+1) rs=(0,-1):=by
 unfold eW0 at h;split at h
 ·rename_i e;exact ⟨e,h⟩
 ·rename_i e;exact absurd (congrArg Prod.fst h) e
theorem oP0 {p:Int×Int} {k:Nat} {now:Int}:∀{rs:List (Int×Int)},eW0 p k rs=(0,-1)→now≤p.1→∃n,aR0 p.2 now rs=(p.2,n)
 | [],_,_=>⟨-1,rfl⟩
 | r::rs,h,hn=>by
  obtain ⟨h1,_⟩:=kU0 h;have:=(oO0 h1).2;exact ⟨r.1,by unfold aR0;rw [if_pos (by omega)]⟩
theorem fA1 {now:Int} (h0:0≤now):∀{rs:List (Int×Int)} {p:Int×Int} {k:Nat},eW0 p k rs=(0,-1)→p.1≤now→
  ((aR0 p.2 now rs).2=now+1↔¬(aR0 p.2 (now+1) rs).1=(aR0 p.2 now rs).1)∧((aR0 p.2 now rs).2=-1∨now<(aR0 p.2 now rs).2)
   ∧((aR0 p.2 (now+1) rs).1=(aR0 p.2 now rs).1→(aR0 p.2 (now+1) rs).2=(aR0 p.2 now rs).2)
 | [],p,k,_,_=>by simp [aR0];omega
 | r::rs,p,k,h,hp=>by
  obtain ⟨h1,h2⟩:=kU0 h;obtain ⟨g1,g2⟩:=oO0 h1
  by_cases ha:r.1≤now
  ·have e1:aR0 p.2 now (r::rs)=aR0 r.2 now rs:=by unfold aR0;rw [if_neg (by omega)];cases rs <;> rfl
   have e2:aR0 p.2 (now+1) (r::rs)=aR0 r.2 (now+1) rs:=by unfold aR0;rw [if_neg (by omega)];cases rs <;> rfl
   rw [e1,e2];exact fA1 h0 h2 ha
  ·have e1:aR0 p.2 now (r::rs)=(p.2,r.1):=by unfold aR0;rw [if_pos (by omega)]
   by_cases hb:r.1=now+1
   ·obtain ⟨n,e3⟩:=oP0 (now:=now+1) h2 (by omega);have e2:aR0 p.2 (now+1) (r::rs)=(r.2,n):=by rw [←e3];unfold aR0;rw [if_neg (by omega)];cases rs <;> rfl
    rw [e1,e2];exact ⟨⟨fun _=>g1,fun _=>hb⟩,Or.inr (by simp;omega),fun e=>absurd e g1⟩
   ·have e2:aR0 p.2 (now+1) (r::rs)=(p.2,r.1):=by unfold aR0;rw [if_pos (by omega)]
    rw [e1,e2];exact ⟨⟨fun e=>absurd e hb,fun e=>absurd rfl e⟩,Or.inr (by simp;omega),fun _=>rfl⟩
theorem yS0 {rs:List (Int×Int)} (h:tabE rs=(0,-1)):0<rs.length∧bU0 rs 0=(0,1)∧eW0 (bU0 rs 0) 1 (rs.drop 1)=(0,-1):=by
 cases rs with
 | nil=>exact absurd (congrArg Prod.fst h) (by decide)
 | cons r rs=>
  rw [iX0] at h;split at h
  ·exact absurd (congrArg Prod.fst h) (by decide)
  split at h
  ·rename_i e;exact ⟨Nat.succ_pos _,e,h⟩
  ·exact absurd (congrArg Prod.fst h) (by decide)
theorem uH0 {now:Int}:∀{rs:List (Int×Int)} {p:Int×Int} {k:Nat},eW0 p k rs=(0,-1)→p.1≤now→
  (aR0 p.2 (now+1) rs).1=(aR0 p.2 now rs).1∨hasB (folL (aR0 p.2 now rs).1) (aR0 p.2 (now+1) rs).1=true
 | [],p,k,_,_=>Or.inl rfl
 | r::rs,p,k,h,hp=>by
  obtain ⟨h1,h2⟩:=kU0 h;obtain ⟨g1,g2⟩:=oO0 h1
  by_cases ha:r.1≤now
  ·have e1:aR0 p.2 now (r::rs)=aR0 r.2 now rs:=by unfold aR0;rw [if_neg (by omega)];cases rs <;> rfl
   have e2:aR0 p.2 (now+1) (r::rs)=aR0 r.2 (now+1) rs:=by unfold aR0;rw [if_neg (by omega)];cases rs <;> rfl
   rw [e1,e2];exact uH0 h2 ha
  ·have e1:aR0 p.2 now (r::rs)=(p.2,r.1):=by unfold aR0;rw [if_pos (by omega)]
   by_cases hb:r.1=now+1
   ·obtain ⟨n,e3⟩:=oP0 (now:=now+1) h2 (by omega);have e2:aR0 p.2 (now+1) (r::rs)=(r.2,n):=by rw [←e3];unfold aR0;rw [if_neg (by omega)];cases rs <;> rfl
    rw [e1,e2];right;show hasB (folL p.2) r.2=true;unfold rowE jF0 at h1
    by_cases hh:hasB (folL p.2) r.2=true
    ·exact hh
    ·rw [if_neg hh] at h1;cases h1
   ·have e2:aR0 p.2 (now+1) (r::rs)=(p.2,r.1):=by unfold aR0;rw [if_pos (by omega)]
    rw [e1,e2];exact Or.inl rfl
theorem qJ0 {rs:List (Int×Int)} {now:Int} (h:tabE rs=(0,-1)) (h0:0≤now):(phaseV rs (now+1)).1=(phaseV rs now).1∨hasB (folL (phaseV rs now).1) (phaseV rs (now+1)).1=true:=by
 obtain ⟨_,h1,h2⟩:=yS0 h;exact uH0 h2 (by rw [h1];exact h0)
theorem fB1 {p r:Int} (h:hasB (folL p) r=true):(p=1∧r=2)∨(p=2∧r=3)∨(p=3∧(r=5∨r=7))∨(p=5∧r=7):=by
 unfold folL at h;split at h
 ·rename_i e;exact Or.inl ⟨e,by simpa [hasB] using h⟩
 split at h
 ·rename_i e;exact Or.inr (Or.inl ⟨e,by simpa [hasB] using h⟩)
 split at h
 ·rename_i e;exact Or.inr (Or.inr (Or.inl ⟨e,by simpa [hasB] using h⟩))
 split at h
 ·rename_i e;exact Or.inr (Or.inr (Or.inr ⟨e,by simpa [hasB] using h⟩))
 ·cases h
theorem qK0 {now:Int}:∀{rs:List (Int×Int)} {p:Int×Int} {k:Nat},eW0 p k rs=(0,-1)→(p.2=1∨p.2=2∨p.2=3∨p.2=5∨p.2=7)→(aR0 p.2 now rs).1=1∨(aR0 p.2 now rs).1=2∨(aR0 p.2 now rs).1=3∨(aR0 p.2 now rs).1=5∨(aR0 p.2 now rs).1=7
 | [],p,k,_,hp=>hp
 | r::rs,p,k,h,hp=>by
  obtain ⟨h1,h2⟩:=kU0 h
  by_cases ha:now<r.1
  ·have e1:aR0 p.2 now (r::rs)=(p.2,r.1):=by unfold aR0;rw [if_pos ha]
   rw [e1];exact hp
  ·have e1:aR0 p.2 now (r::rs)=aR0 r.2 now rs:=by unfold aR0;rw [if_neg ha];cases rs <;> rfl
   rw [e1];refine qK0 h2 ?_
   have hh:hasB (folL p.2) r.2=true:=by
    unfold rowE jF0 at h1
    by_cases hh:hasB (folL p.2) r.2=true
    ·exact hh
    ·rw [if_neg hh] at h1;cases h1
   rcases fB1 hh with ⟨_,e⟩ | ⟨_,e⟩ | ⟨_,e | e⟩ | ⟨_,e⟩ <;> omega
theorem qL0 {rs:List (Int×Int)} {now:Int} (h:tabE rs=(0,-1)):(phaseV rs now).1=1∨(phaseV rs now).1=2∨(phaseV rs now).1=3∨(phaseV rs now).1=5∨(phaseV rs now).1=7:=by
 obtain ⟨_,h1,h2⟩:=yS0 h;exact qK0 h2 (by rw [h1];exact Or.inl rfl)
def upF (f:Int→Int) (k v:Int):Int→Int:=fun x=>if x=k then v else f x
theorem dC0 (f:Int→Int) (k v:Int):upF f k v k=v:=if_pos rfl
theorem cC0 {f:Int→Int} {k v x:Int} (h:x≠k):upF f k v x=f x:=if_neg h
def cX0 (lots side:Int→Int) (L:List Ord):Prop:=∀x∈L,lots x.id=x.qty∧side x.id=x.side
theorem cX0.sub {lots side:Int→Int} {L L':List Ord} (h:cX0 lots side L) (hs:∀x∈L',x∈L):cX0 lots side L':=fun x hx=>h x (hs x hx)
theorem cX0.up {lots side:Int→Int} {L:List Ord} (h:cX0 lots side L) {k v:Int} (hk:∀x∈L,x.id≠k):cX0 (upF lots k v) side L:=fun x hx=>⟨(cC0 (hk x hx)).trans (h x hx).1,(h x hx).2⟩
theorem cX0.upS {lots side:Int→Int} {L:List Ord} (h:cX0 lots side L) {k v:Int} (hk:∀x∈L,x.id≠k):cX0 lots (upF side k v) L:=fun x hx=>⟨(h x hx).1,(cC0 (hk x hx)).trans (h x hx).2⟩
theorem oQ0 {id n:Int} {L:List Ord} {x:Ord} (h:x∈bE0 id n L):∃y∈L,y.id=x.id∧y.side=x.side∧y.kind=x.kind∧y.price=x.price:=by
 obtain ⟨y,hy,e,_⟩:=kE0 h;exact ⟨y,hy,by rw [e,nU0],by rw [e,fU0],by rw [e,nV0],by rw [e,iV0]⟩
theorem cX0.less {lots side:Int→Int} {L:List Ord} (h:cX0 lots side L) (id n:Int):cX0 (upF lots id (lots id - n)) side (bE0 id n L):=fun x hx=>by
 obtain ⟨y,hy,e,_⟩:=kE0 hx;have hk:=h y hy
 by_cases hi:y.id=id
 ·have e2:x=cutO n y:=by rw [e];unfold cutF;rw [if_pos hi]
  have e3:x.id=id:=by rw [e,nU0];exact hi
  refine ⟨?_,by rw [e,nU0,fU0];exact hk.2⟩;rw [e3,dC0,←hi,hk.1,e2];rfl
 ·have e2:x=y:=by rw [e];exact hJ0 hi
  subst e2;exact ⟨(cC0 hi).trans hk.1,hk.2⟩
def fC1 (lots side:Int→Int) (f:Fil):Prop:=1≤f.qty∧side f.buyer=1∧side f.seller=2∧f.qty≤lots f.buyer∧f.qty≤lots f.seller
def kV0 (lots:Int→Int) (f:Fil):Int→Int:=upF (upF lots f.buyer (lots f.buyer - f.qty)) f.seller (upF lots f.buyer (lots f.buyer - f.qty) f.seller - f.qty)
def dN0 (side:Int→Int):(Int→Int)→List Fil→Prop
 | _,[]=>True
 | lots,f::fs=>fC1 lots side f∧dN0 side (kV0 lots f) fs
def bF0:(Int→Int)→List Fil→Int→Int
 | lots,[]=>lots
 | lots,f::fs=>bF0 (kV0 lots f) fs
theorem dR0:∀(fs:List Fil) (lots:Int→Int) (f:Fil),bF0 lots (fs++[f])=kV0 (bF0 lots fs) f
 | [],_,_=>rfl
 | _::fs,_,f=>dR0 fs _ f
theorem dN0.snoc {side:Int→Int}:∀{fs:List Fil} {lots:Int→Int} {f:Fil},dN0 side lots fs→fC1 (bF0 lots fs) side f→dN0 side lots (fs++[f])
 | [],_,_,_,h=>⟨h,trivial⟩
 | _::_,_,_,⟨h1,h2⟩,h=>⟨h1,h2.snoc h⟩
theorem wN0 {p:Int} {s:FS} {lots side:Int→Int} (h:FOk p s) (hq:0<s.q) (hk:cX0 lots side s.L):∃f,(eC0 p s).fs=s.fs++[f]∧fC1 lots side f∧cX0 (kV0 lots f) side (eC0 p s).L∧(∃x∈s.L,x.id=f.buyer)∧(∃y∈s.L,y.id=f.seller)∧∀z∈(eC0 p s).L,∃u∈s.L,u.id=z.id:=by
 obtain ⟨⟨x,T,y,U,hS1,hS2,hbx,hby,hxL,hyL,hy2,h1,h2,h3,h4,_,e,_,_,_⟩,_⟩:=hK0 h hq;have hsx:x.side=1:=(aP0.1 (show x∈aK0 1 s.L by rw [hS1];exact List.mem_cons_self ..)).2;have hsy:y.side=2:=(aP0.1 (show y∈aK0 2 s.L by rw [hS2];exact List.mem_cons_self ..)).2;have kx:=hk x hxL;have ky:=hk y hyL;refine ⟨⟨x.id,y.id,p,lotN s⟩,?_,⟨h1,kx.2.trans hsx,ky.2.trans hsy,by show lotN s≤lots x.id;rw [kx.1];exact h3,by show lotN s≤lots y.id;rw [ky.1];exact h4⟩,?_,⟨x,hxL,rfl⟩,⟨y,hyL,rfl⟩,fun z hz=>?_⟩
 ·show s.fs++[⟨(jD0 1 s.L).id,(jD0 2 s.L).id,p,lotN s⟩]=_;rw [hbx,hby]
 ·rw [e];exact (hk.less x.id (lotN s)).less y.id (lotN s)
 ·rw [e] at hz;obtain ⟨u,hu,e3,_⟩:=oQ0 hz;obtain ⟨v,hv,e4,_⟩:=oQ0 hu;exact ⟨v,hv,by rw [e4,e3]⟩
def fD1 (L:List Ord) (fs:List Fil):Prop:=∀f∈fs,(∃x∈L,x.id=f.buyer)∧∃y∈L,y.id=f.seller
theorem oR0 {p:Int} {s:FS} {lots side:Int→Int} (h:FOk p s) (hs:s.fs=[]) (hk:cX0 lots side s.L):∀k,(∀j,j<k→0<(aQ0 p s j).q)→dN0 side lots (aQ0 p s k).fs∧cX0 (bF0 lots (aQ0 p s k).fs) side (aQ0 p s k).L∧fD1 s.L (aQ0 p s k).fs∧∀z∈(aQ0 p s k).L,∃u∈s.L,u.id=z.id
 | 0,_=>by
  show dN0 side lots s.fs∧cX0 (bF0 lots s.fs) side s.L∧fD1 s.L s.fs∧∀z∈s.L,∃u∈s.L,u.id=z.id;rw [hs];exact ⟨trivial,hk,(fun f hf=>by cases hf),fun z hz=>⟨z,hz,rfl⟩⟩
 | k+1,hq=>by
  obtain ⟨h1,h2,h5,h6⟩:=oR0 h hs hk k (fun j hj=>hq j (by omega));obtain ⟨f,e,h3,h4,⟨x,hx,ex⟩,⟨y,hy,ey⟩,h7⟩:=wN0 (gH0 h k (fun j hj=>hq j (by omega))) (hq k (by omega)) h2;show dN0 side lots (eC0 p (aQ0 p s k)).fs∧cX0 (bF0 lots (eC0 p (aQ0 p s k)).fs) side (eC0 p (aQ0 p s k)).L∧fD1 s.L (eC0 p (aQ0 p s k)).fs∧∀z∈(eC0 p (aQ0 p s k)).L,∃u∈s.L,u.id=z.id;rw [e,dR0];refine ⟨h1.snoc h3,h4,fun g hg=>?_,fun z hz=>?_⟩
  ·rcases List.mem_append.1 hg with hg | hg
   ·exact h5 g hg
   ·rw [List.mem_singleton.1 hg];obtain ⟨u,hu,eu⟩:=h6 x hx;obtain ⟨v,hv,ev⟩:=h6 y hy;exact ⟨⟨u,hu,eu.trans ex⟩,⟨v,hv,ev.trans ey⟩⟩
  ·obtain ⟨u,hu,eu⟩:=h7 z hz;obtain ⟨v,hv,ev⟩:=h6 u hu;exact ⟨v,hv,ev.trans eu⟩
theorem qM0 {p:Int}:∀(n:Nat) (s:FS),∃K,K≤n∧gI0 p n s=aQ0 p s K∧(∀j,j<K→0<(aQ0 p s j).q)∧((aQ0 p s K).q≤0∨K=n)
 | 0,s=>⟨0,lR7,rfl,fun j hj=>absurd hj (by omega),Or.inr rfl⟩
 | n+1,s=>by
  by_cases hq:s.q≤0
  ·refine ⟨0,Nat.zero_le _,?_,fun j hj=>absurd hj (by omega),Or.inl hq⟩;unfold gI0;rw [if_pos hq];rfl
  ·obtain ⟨K,hK,e,hj,hz⟩:=qM0 n (eC0 p s);refine ⟨K+1,by omega,?_,fun j hjK=>?_,?_⟩
   ·unfold gI0;rw [if_neg hq,e,dL0]
   ·cases j with
    | zero=>show 0<s.q;omega
    | succ j=>rw [←dL0];exact hj j (by omega)
   ·rw [←dL0];exact hz.imp id (fun e=>by omega)
theorem qN0 {p q:Int} {L:List Ord} (h:FOk p ⟨[],L,q⟩):∃K,gT0 p q L=aQ0 p ⟨[],L,q⟩ K∧(aQ0 p ⟨[],L,q⟩ K).q=0∧∀j,j<K→0<(aQ0 p ⟨[],L,q⟩ j).q:=by
 obtain ⟨K,hK,e,hj,hz⟩:=qM0 (p:=p) (L.length+1) ⟨[],L,q⟩;have hnn:=(gH0 h K hj).nn;refine ⟨K,e,?_,hj⟩;rcases hz with hz | hz
 ·omega
 ·by_cases h0:(aQ0 p ⟨[],L,q⟩ K).q=0
  ·exact h0
  ·have:=gQ0 h K (fun j hjK=>by
    by_cases e2:j=K
    ·subst e2;omega
    ·exact hj j (by omega))
   have e3:(⟨[],L,q⟩:FS).L.length=L.length:=rfl;omega
def oY1 (L:List Ord):Prop:=∀x∈L,∀y∈L,x.side=1→y.side=2→x.price<y.price
theorem uI0 {M:Mkt} {lots side:Int→Int} (h:LOk M.L) (hla:1≤M.la∧M.la≤1000000) (hk:cX0 lots side M.L):
  dN0 side lots (uncM M).1∧cX0 (bF0 lots (uncM M).1) side (uncM M).2.L∧oY1 (uncM M).2.L∧(∀x∈(uncM M).2.L,x.kind=1∧∃y∈M.L,y.id=x.id)∧fD1 M.L (uncM M).1:=by
 have hne:aW0 M.L M.la≠[]:=by
  unfold aW0;rw [if_pos (show 0<M.la by omega)];simp
 unfold uncM
 by_cases hq:0<(aG0 M).qty
 ·rw [if_pos hq];have hF:FOk (aG0 M).price ⟨[],M.L,(aG0 M).qty⟩:=fB0 M.la h hq;obtain ⟨K,e,hz,hj⟩:=qN0 hF;obtain ⟨h1,h2,hwh,hsub⟩:=oR0 hF rfl hk K hj;show dN0 side lots (gT0 (aG0 M).price (aG0 M).qty M.L).fs∧cX0 (bF0 lots (gT0 (aG0 M).price (aG0 M).qty M.L).fs) side (limL (gT0 (aG0 M).price (aG0 M).qty M.L).L)∧oY1 (limL (gT0 (aG0 M).price (aG0 M).qty M.L).L)∧(∀x∈limL (gT0 (aG0 M).price (aG0 M).qty M.L).L,x.kind=1∧∃y∈M.L,y.id=x.id)∧fD1 M.L (gT0 (aG0 M).price (aG0 M).qty M.L).fs;rw [e];refine ⟨h1,h2.sub (fun x hx=>(List.mem_filter.1 hx).1),fun x hx y hy sx sy=>?_,fun x hx=>⟨by simpa using (List.mem_filter.1 hx).2,hsub x (List.mem_filter.1 hx).1⟩,hwh⟩;have:=uF0 M.la h hne hq hj hz (x:=x) (y:=y) (aP0.2 ⟨(List.mem_filter.1 hx).1,sx⟩) (aP0.2 ⟨(List.mem_filter.1 hy).1,sy⟩);have h3:¬y.price≤x.price:=fun e=>this (Or.inr (Or.inr e))
  omega
 ·rw [if_neg hq];refine ⟨trivial,hk.sub (fun x hx=>(List.mem_filter.1 hx).1),fun x hx y hy sx sy=>?_,fun x hx=>⟨by simpa using (List.mem_filter.1 hx).2,x,(List.mem_filter.1 hx).1,rfl⟩,(fun f hf=>by cases hf)⟩
  have hb:∀p,1≤p→p≤1000000→min (wilL 1 p M.L) (wilL 2 p M.L)≤0:=fun p _ _=>by
   have:=qH0 (l:=M.L) (more:=M.la) M.la p hne;rw [wL0 h,wM0 h] at this;have e:(aJ0 (aM0 M.L M.la) M.la).qty=(aG0 M).qty:=rfl;omega
  have e0:∀Z:List Ord,(∀z∈Z,1≤z.qty)→∀z∈Z,z∈eatL 0 Z:=fun Z hZ z hz=>by rw [kR0 hZ];exact hz
  have px:∀s,∀z∈aK0 s M.L,1≤z.qty:=fun s z hz=>(h.ok z (aP0.1 hz).1).2.2.1
  have:=uD0 h (Int.le_refl 0) hb (e0 _ (px 1) x (aP0.2 ⟨(List.mem_filter.1 hx).1,sx⟩)) (e0 _ (px 2) y (aP0.2 ⟨(List.mem_filter.1 hy).1,sy⟩));have h3:¬y.price≤x.price:=fun e=>this (Or.inr (Or.inr e))
  omega
def jS0 (st dy an:Int):Int→List Fil→Prop
 | _,[]=>True
 | la,f::fs=>dX0 st dy an la f.price=true∧jS0 st dy an f.price fs
theorem jS0.snoc {st dy an:Int}:∀{fs:List Fil} {la:Int} {f:Fil},jS0 st dy an la fs→dX0 st dy an (bZ0 la (fs.map Fil.price)) f.price=true→jS0 st dy an la (fs++[f])
 | [],_,_,_,h=>⟨h,trivial⟩
 | _::_,_,_,⟨h1,h2⟩,h=>⟨h1,h2.snoc h⟩
theorem yT0 {P:Int→Prop}:∀{ts:List Int} {la:Int},P la→(∀t∈ts,P t)→P (bZ0 la ts)
 | [],_,h,_=>h
 | t::ts,_,_,h=>yT0 (ts:=ts) (la:=t) (h t (List.mem_cons_self ..)) (fun u hu=>h u (List.mem_cons_of_mem _ hu))
structure MF (M:Mkt) (o:Ord) (lots side:Int→Int) (s:MS):Prop where
 fok:dN0 side lots s.fs
 kp:cX0 (bF0 lots s.fs) side s.L
 me:bF0 lots s.fs o.id=s.q∧side o.id=o.side
 new:∀x∈s.L,x.id≠o.id
 ts:s.ts=s.fs.map Fil.price
 bands:jS0 M.st M.dy M.an M.la s.fs
 nn:0≤s.q
 sub:∀x∈s.L,∃y∈M.L,y.id=x.id∧y.side=x.side∧y.kind=x.kind∧y.price=x.price
 len:s.L.length≤M.L.length
 tsr:∀t∈s.ts,1≤t∧t≤1000000
 who:∀f∈s.fs,(f.buyer=o.id∨∃x∈M.L,x.id=f.buyer)∧(f.seller=o.id∨∃x∈M.L,x.id=f.seller)
theorem kL1 (id n:Int) (L:List Ord):(bE0 id n L).length≤L.length:=by
 unfold bE0;have:=List.length_filter_le (fun o:Ord=>decide (0<o.qty)) (L.map (cutF id n));rw [List.length_map] at this;exact this
theorem aV1 {M:Mkt} {o x:Ord} {T:List Ord} {s:MS} {lots side:Int→Int} (h:MF M o lots side s) (hM:MOk (x::T) s) (hq:0<s.q) (hs:o.side=1∨o.side=2) (hx:x.side=3 - o.side) (ha:alM M s.ts x.price=true):MF M o lots side (hZ0 o x s):=by
 have hxL:=hM.here x (List.mem_cons_self ..);have hn:=hM.lots hq;have kx:=h.kp x hxL;have hne:x.id≠o.id:=h.new x hxL;have hb:dX0 M.st M.dy M.an (bZ0 M.la (s.fs.map Fil.price)) x.price=true:=by rw [←h.ts];exact ha
 have hnew:∀y∈bE0 x.id (min s.q x.qty) s.L,y.id≠o.id:=fun y hy=>by
  obtain ⟨z,hz,e,_⟩:=oQ0 hy;rw [←e];exact h.new z hz
 have hsub:∀y∈bE0 x.id (min s.q x.qty) s.L,∃z∈M.L,z.id=y.id∧z.side=y.side∧z.kind=y.kind∧z.price=y.price:=fun y hy=>by
  obtain ⟨z,hz,e1,e2,e3,e4⟩:=oQ0 hy;obtain ⟨u,hu,f1,f2,f3,f4⟩:=h.sub z hz;exact ⟨u,hu,by rw [f1,e1],by rw [f2,e2],by rw [f3,e3],by rw [f4,e4]⟩
 obtain ⟨x0,hx0,ex0,_⟩:=h.sub x hxL;have htsr:∀t∈s.ts++[x.price],1≤t∧t≤1000000:=fun t ht=>(List.mem_append.1 ht).elim (h.tsr t) (fun ht=>by rw [List.mem_singleton.1 ht];have:=hM.ok.ok x hxL;omega)
 have hlen:=Nat.le_trans (kL1 x.id (min s.q x.qty) s.L) h.len;rcases hs with h1 | h1
 ·have e:kG0 o x (min s.q x.qty)=⟨o.id,x.id,x.price,min s.q x.qty⟩:=if_pos h1;unfold hZ0;rw [e];refine ⟨h.fok.snoc ⟨hn.1,h.me.2.trans h1,kx.2.trans (by omega),by show min s.q x.qty≤bF0 lots s.fs o.id;rw [h.me.1];exact hn.2.2,by show min s.q x.qty≤bF0 lots s.fs x.id;rw [kx.1];exact hn.2.1⟩,?_,⟨?_,h.me.2⟩,hnew,by show s.ts++[x.price]=_;rw [h.ts,List.map_append];rfl,h.bands.snoc hb,by show 0≤s.q - min s.q x.qty;omega,hsub,hlen,htsr,fun g hg=>(List.mem_append.1 hg).elim (h.who g) (fun hg=>by rw [List.mem_singleton.1 hg];exact ⟨Or.inl rfl,Or.inr ⟨x0,hx0,ex0⟩⟩)⟩
  ·rw [dR0];exact (h.kp.up h.new).less x.id (min s.q x.qty)
  ·rw [dR0];show upF (upF (bF0 lots s.fs) o.id (bF0 lots s.fs o.id - min s.q x.qty)) x.id _ o.id=s.q - min s.q x.qty;rw [cC0 (fun e=>hne e.symm),dC0,h.me.1]
 ·have e:kG0 o x (min s.q x.qty)=⟨x.id,o.id,x.price,min s.q x.qty⟩:=if_neg (by omega);unfold hZ0;rw [e];refine ⟨h.fok.snoc ⟨hn.1,kx.2.trans (by omega),h.me.2.trans h1,by show min s.q x.qty≤bF0 lots s.fs x.id;rw [kx.1];exact hn.2.1,by show min s.q x.qty≤bF0 lots s.fs o.id;rw [h.me.1];exact hn.2.2⟩,?_,⟨?_,h.me.2⟩,hnew,by show s.ts++[x.price]=_;rw [h.ts,List.map_append];rfl,h.bands.snoc hb,by show 0≤s.q - min s.q x.qty;omega,hsub,hlen,htsr,fun g hg=>(List.mem_append.1 hg).elim (h.who g) (fun hg=>by rw [List.mem_singleton.1 hg];exact ⟨Or.inr ⟨x0,hx0,ex0⟩,Or.inl rfl⟩)⟩
  ·rw [dR0];exact (h.kp.less x.id (min s.q x.qty)).up hnew
  ·rw [dR0];show upF (upF (bF0 lots s.fs) x.id (bF0 lots s.fs x.id - min s.q x.qty)) o.id (upF (bF0 lots s.fs) x.id (bF0 lots s.fs x.id - min s.q x.qty) o.id - min s.q x.qty) o.id=s.q - min s.q x.qty;rw [dC0,cC0 (fun e=>hne e.symm),h.me.1]
theorem lQ0 {M:Mkt} {o:Ord} {lots side:Int→Int} (hs:o.side=1∨o.side=2):∀(X:List Ord) (s:MS),MF M o lots side s→MOk X s→(∀x∈X,x.side=3 - o.side)→MF M o lots side (cH0 (alM M) o X s).1
 | [],s,h,_,_=>h
 | x::T,s,h,hM,hX=>by
  by_cases hq:0<s.q
  ·by_cases hk:x.kind=2
   ·rw [lH0 hk];exact lQ0 hs T s h hM.pass (fun y hy=>hX y (List.mem_cons_of_mem _ hy))
   ·by_cases hf:farB o x=true
    ·rw [kH0 hq hk hf];exact h
    ·have hf':farB o x=false:=by simpa using hf
     by_cases ha:alM M s.ts x.price=true
     ·rw [hL0 hq hk hf' ha];exact lQ0 hs T _ (aV1 h hM hq hs (hX x (List.mem_cons_self ..)) ha) (hM.step o hq) (fun y hy=>hX y (List.mem_cons_of_mem _ hy))
     ·rw [iW0 hq hk hf' (by simpa using ha)];exact h
  ·rw [eJ0 (by omega)];exact h
theorem kM1 {o x y:Ord} (hs:o.side=1∨o.side=2) (hx:x.kind≠2) (hy:y.kind≠2) (hr:eI0 (3 - o.side) x≤eI0 (3 - o.side) y) (hf:farB o x=true):farB o y=true:=by
 unfold eI0 cP1 at hr;rw [if_neg hx,if_neg hy] at hr;unfold farB at hf ⊢;rcases hs with h | h
 ·rw [h] at hr hf ⊢;simp at hr hf ⊢;exact ⟨hf.1,by omega⟩
 ·rw [h] at hr hf ⊢;simp at hr hf ⊢;exact ⟨hf.1,by omega⟩
theorem qO0 {M:Mkt} {o:Ord} (hs:o.side=1∨o.side=2):∀(X:List Ord) (s s':MS),MOk X s→X.Pairwise (fun a b=>eI0 (3 - o.side) a≤eI0 (3 - o.side) b)→(∀x∈X,x.kind≠2)→(∀y∈s.L,y.side=3 - o.side→y∈X)→cH0 (alM M) o X s=(s',false)→0<s'.q→∀y∈s'.L,y.side=3 - o.side→farB o y=true
 | [],s,s',_,_,_,hall,e,_=>fun y hy hyS=>by
  have e':(s,false)=(s',false):=e;injection e' with e' _;subst e';exact absurd (hall y hy hyS) (by simp)
 | x::T,s,s',hM,hP,hK,hall,e,hq'=>fun y hy hyS=>by
  by_cases hq:0<s.q
  ·have hk:=hK x (List.mem_cons_self ..)
   by_cases hf:farB o x=true
   ·rw [kH0 hq hk hf] at e;injection e with e _;subst e;rcases List.mem_cons.1 (hall y hy hyS) with rfl | hyT
    ·exact hf
    ·exact kM1 hs hk (hK y (List.mem_cons_of_mem _ hyT)) ((List.pairwise_cons.1 hP).1 y hyT) hf
   ·have hf':farB o x=false:=by simpa using hf
    by_cases ha:alM M s.ts x.price=true
    ·rw [hL0 hq hk hf' ha] at e;refine qO0 hs T _ s' (hM.step o hq) (List.pairwise_cons.1 hP).2 (fun z hz=>hK z (List.mem_cons_of_mem _ hz)) (fun z hz hzS=>?_) e hq' y hy hyS
     have hpos:0<(hZ0 o x s).q:=by
      by_cases h0:(hZ0 o x s).q≤0
      ·rw [eJ0 h0] at e;injection e with e _;subst e;exact hq'
      ·omega
     have hn:min s.q x.qty=x.qty:=by
      have:0<s.q - min s.q x.qty:=hpos;omega
     obtain ⟨u,hu,e1,hz0⟩:=kE0 (show z∈bE0 x.id (min s.q x.qty) s.L from hz);have hus:u.side=3 - o.side:=by rw [e1,fU0] at hzS;exact hzS
     rcases List.mem_cons.1 (hall u hu hus) with hux | huT
     ·exfalso;subst hux;rw [e1,rH0] at hz0;have:0<u.qty - min s.q u.qty:=hz0;omega
     ·have hne:u.id≠x.id:=fun e2=>(List.nodup_cons.1 hM.ids).1 (by rw [←e2];exact List.mem_map_of_mem huT)
      rw [e1,hJ0 hne];exact huT
    ·rw [iW0 hq hk hf' (by simpa using ha)] at e;injection e with _ e;cases e
  ·rw [eJ0 (by omega)] at e;injection e with e _;subst e;omega
end Go.Proofs.YtaelphbianmckaaGreatDoor
