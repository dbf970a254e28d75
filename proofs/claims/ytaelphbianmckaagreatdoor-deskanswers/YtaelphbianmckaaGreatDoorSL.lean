/- DeskAnswers -/
import Derived.Test.YtaelphbianmckaaGreatDoorSI
import Derived.Test.YtaelphbianmckaaGreatDoorSJ
import Derived.Lib.ItoaLen
import Derived.Lib.SpaceUEq
import Derived.LaidHandle
open Go.Value renaming int->U, pointer->E, slice->J
open Go.IntKind renaming i64->G
open Go.Obj renaming cells->R
open Go.Ending renaming returned->Y
open Go.Proofs.Tryz
open Go.RowKit.Below renaming refl->aF
open Bool renaming and_eq_true->bE, eq_iff_iff->cR, and_eq_true_iff->aW
open List renaming mem_cons_self->aK, mem_cons_of_mem->aQ, mem_map_of_mem->dM, mem_map->bH, length_append->aN, replicate->gH, length_map->bU, length_take->bF, map_cons->bW, map_nil->fJ, nil_append->bX, take_length->bI, append_nil->dK, length_drop->dC, drop_eq_nil_of_le->cI, length_eq_zero_iff->dU, map_map->dS, map_congr_left->cJ, mem_singleton->bC
open Nat renaming zero_le->aO, zero_add->bT, le_trans->aI, lt_of_lt_of_le->aT, lt_or_ge->eE, add_zero->dV
open Or renaming inl->aH
open Go.Proofs.YtaelphbianmckaaGreatDoor.Out renaming of_below->aL, refl->bL
open Go.Proofs.YtaelphbianmckaaGreatDoor.Went renaming refl->aJ
set_option maxHeartbeats 4000000
set_option maxRecDepth 100000
namespace Go.Proofs.YtaelphbianmckaaGreatDoor
section
open Go.RowKit
theorem keyStr:Maps.Keyed prog 9:=Maps.string_keyed underlying9
theorem keyStrAt {s:ByteArray} (h:s.size<=maxLen):keyOf prog 9 (.string s)=some (.string s.data.toList):=WideMaps.keyOf_string_mk underlying9 h
theorem zeroDeed (w:World):(zeroValue 69).run prog w=.ok (.agg #[U G 0,U G 0,.nilFunc]) w:=k7
def bO1:List Nat:=[19,20,21,22,23,24,25,26,27,28,29,30,31,32,33,34,35,36]
def xW0 (v:Value):Option (DataW Unit×List MemPlace):=
 match v with
 | .agg ⟨[.int .i64 a,.int .i64 b,.func (.func f) ⟨[.pointer (some ⟨sb,0,none⟩)]⟩ ⟨[]⟩]⟩=>some (.agg [.lit (.int .i64 a),.lit (.int .i64 b),.lit (.int .i64 (f:Nat)),.lit (.int .i64 (sb:Nat))],[])
 | .agg ⟨[.int .i64 a,.int .i64 b,.nilFunc]⟩=>some (.agg [.lit (.int .i64 a),.lit (.int .i64 b)],[])
 | _=>none
def iD0 (a b:Int) (f sb:Nat):DataW Unit:=.agg [.lit (.int .i64 a),.lit (.int .i64 b),.lit (.int .i64 f),.lit (.int .i64 sb)]
def deedZ:DataW Unit:=.agg [.lit (.int .i64 0),.lit (.int .i64 0)]
def vT1 (a b:Int) (f sb:Nat):Value:=.agg #[U G a,U G b,.func (.func f) #[E (some ⟨sb,0,none⟩)] #[]]
theorem vU1 (a b:Int) (f sb:Nat):xW0 (vT1 a b f sb)=some (iD0 a b f sb,[]):=rfl
theorem pT1 {v:Value} {a b:Int} {f sb:Nat} {e:List MemPlace} (h:xW0 v=some (iD0 a b f sb,e)):v=vT1 a b f sb:=by
 unfold xW0 at h;split at h
 ·simp only [iD0,Option.some.injEq,Prod.mk.injEq,DataW.agg.injEq,List.cons.injEq,DataW.lit.injEq,Lit.int.injEq,true_and,and_true] at h;obtain ⟨⟨rfl,rfl,c,d⟩,_⟩:=h;obtain rfl:=Int.ofNat.inj c;obtain rfl:=Int.ofNat.inj d;rfl
 ·simp [iD0] at h
 ·cases h
theorem kI1 {v:Value} {a:List MemPlace} (h:xW0 v=some (deedZ,a)):v=.agg #[.int .i64 0,.int .i64 0,.nilFunc]:=by
 unfold xW0 at h;split at h
 ·simp [deedZ] at h
 ·simp only [deedZ,Option.some.injEq,Prod.mk.injEq,DataW.agg.injEq,List.cons.injEq,DataW.lit.injEq,Lit.int.injEq,true_and,and_true] at h;obtain ⟨⟨rfl,rfl⟩,_⟩:=h;rfl
 ·cases h
def jD0 (D:DataW Unit) (l:List (List UInt8×DataW Unit)):DataW Unit:=l.foldl (fun D x=>D.put (.string x.1) x.2) D
theorem vW0:∀(l:List (List UInt8×DataW Unit)) {D:DataW Unit},(∃a,D=.map a)->∃a,jD0 D l=.map a
 | [],_,h=>h
 | x::l,D,h=>vW0 l (by obtain ⟨a,rfl⟩:=h;exact ⟨_,rfl⟩)
theorem yT1 {a b:List UInt8} (h:a≠b):(Lit.string a)≠Lit.string b:=fun e=>h (by injection e)
theorem pU1 (a:List UInt8):WideAt.IsKeyLit (Lit.string a):=trivial
theorem oN0 (k:List UInt8) (z:DataW Unit):∀(l:List (List UInt8×DataW Unit)) {D:DataW Unit},(∃a,D=.map a)->(∀x∈l,x.1≠k)->(jD0 D l).atKey (.string k) z=D.atKey (.string k) z/\Maps.has (jD0 D l) (.string k)=Maps.has D (.string k)
 | [],_,_,_=>⟨rfl,rfl⟩
 | x::l,D,hD,h=>by
  have b:k≠x.1:=fun e=>h x (aK ..) e.symm
  obtain ⟨h1,c⟩:=oN0 k z l (D:=D.put (.string x.1) x.2) (by obtain ⟨a,rfl⟩:=hD;exact ⟨_,rfl⟩) (fun y d=>h y (aQ _ d));exact ⟨h1.trans (Maps.atKey_put_other (yT1 b) _ _),c.trans (Maps.has_put_other (yT1 b) _)⟩
theorem kJ1 (D:DataW Unit) (a b:List (List UInt8×DataW Unit)):jD0 D (a++b)=jD0 (jD0 D a) b:=List.foldl_append ..
theorem vX0 (k:List UInt8) (v z:DataW Unit) (a b:List (List UInt8×DataW Unit)) {D:DataW Unit} (f:∃c,D=.map c) (h:∀x∈b,x.1≠k):(jD0 D (a++(k,v)::b)).atKey (.string k) z=v/\Maps.has (jD0 D (a++(k,v)::b)) (.string k)=true:=by
 rw [kJ1];obtain ⟨c,d⟩:=vW0 a f;obtain ⟨h1,e⟩:=oN0 k z b (D:=(jD0 D a).put (.string k) v) (by rw [d];exact ⟨_,rfl⟩) h;exact ⟨h1.trans (Maps.atKey_put_same ⟨c,d⟩ (pU1 _) _ _),e.trans (Maps.has_put_same ⟨c,d⟩ (pU1 _) _)⟩
def oO0 (sb:Nat):List (List UInt8×DataW Unit):=[([116,97,98,108,101],iD0 (-1) 1 19 sb),
  ([98,97,110,100,115],iD0 (3) 1 20 sb),
  ([97,117,99,116,105,111,110],iD0 (2) 1 21 sb),
  ([115,116,97,114,116],iD0 (0) 1 22 sb),
  ([98,117,121],iD0 (4) 2 23 sb),
  ([115,101,108,108],iD0 (4) 2 24 sb),
  ([99,97,110,99,101,108],iD0 (1) 2 25 sb),
  ([116,105,99,107],iD0 (0) 2 26 sb),
  ([104,97,108,116],iD0 (0) 2 27 sb),
  ([111,112,101,110],iD0 (0) 2 28 sb),
  ([112,104,97,115,101],iD0 (0) 2 29 sb),
  ([113,117,111,116,101],iD0 (0) 2 30 sb),
  ([114,101,102,115],iD0 (0) 2 31 sb),
  ([111,114,100,101,114,115],iD0 (1) 2 32 sb),
  ([112,97,114,107,101,100],iD0 (0) 2 33 sb),
  ([98,97,110,100],iD0 (2) 0 34 sb),
  ([99,108,101,97,114],iD0 (0) 0 35 sb),
  ([104,101,108,112],iD0 (0) 0 36 sb)]
def eO0 (w:World) (mb sb:Nat):Prop:=w.ownsMap prog 9 xW0 mb 18 (jD0 (.map []) (oO0 sb))
theorem bP1 {k:List UInt8} (h:jS0 k=none):∀x∈mQ0,x.1≠k:=fun x a e=>by
 have:=List.findIdx?_eq_none_iff.1 h x a;simp [e] at this
theorem vY0 (sb:Nat):(oO0 sb).map Prod.fst=mQ0.map Prod.fst:=rfl
theorem vV1 {k:List UInt8} (sb:Nat) (h:jS0 k=none):∀x∈oO0 sb,x.1≠k:=fun x b e=>by
 have h1:x.1∈(oO0 sb).map Prod.fst:=dM b;rw [vY0] at h1;obtain ⟨y,c,a⟩:=bH.1 h1;exact bP1 h y c (a.trans e)
theorem fH0 {k:List UInt8} {d:Nat} (h:jS0 k=some d):d<18/\k=eZ0 d:=by
 obtain ⟨a,h1,_⟩:=List.findIdx?_eq_some_iff_getElem.1 h;refine ⟨a,?_⟩;have b:=beq_iff_eq.1 h1;rw [<-b];unfold eZ0;rw [List.getD_eq_getElem?_getD,List.getElem?_eq_getElem a];rfl
theorem vW1 (sb:Nat):∀d,d<18->(jD0 (.map []) (oO0 sb)).atKey (.string (eZ0 d)) deedZ=iD0 (cE0 d) (iQ0 d) (bO1.getD d 0) sb/\Maps.has (jD0 (.map []) (oO0 sb)) (.string (eZ0 d))=true:=by
 intro d a
 have c:∀(n:Nat) (b:n<18),∀x∈(oO0 sb).drop (n+1),x.1≠eZ0 n:=by
  intro n b x f e;have h1:x.1∈((oO0 sb).drop (n+1)).map Prod.fst:=dM f;rw [List.map_drop,vY0,e] at h1
  revert h1
  have:∀n,n<18->¬(eZ0 n∈(mQ0.map Prod.fst).drop (n+1)):=d7;exact this n b
 have split:oO0 sb=(oO0 sb).take d++(eZ0 d,iD0 (cE0 d) (iQ0 d) (bO1.getD d 0) sb)::(oO0 sb).drop (d+1):=by
  have g:d<(oO0 sb).length:=a
  have e:(oO0 sb)[d]=(eZ0 d,iD0 (cE0 d) (iQ0 d) (bO1.getD d 0) sb):=by
   match d,a with
   | 0,_=>rfl
   | 1,_=>rfl
   | 2,_=>rfl
   | 3,_=>rfl
   | 4,_=>rfl
   | 5,_=>rfl
   | 6,_=>rfl
   | 7,_=>rfl
   | 8,_=>rfl
   | 9,_=>rfl
   | 10,_=>rfl
   | 11,_=>rfl
   | 12,_=>rfl
   | 13,_=>rfl
   | 14,_=>rfl
   | 15,_=>rfl
   | 16,_=>rfl
   | 17,_=>rfl
   | n+18,h=>exact absurd h o7
  rw [<-e,List.getElem_cons_drop,List.take_append_drop]
 rw [split];exact vX0 _ _ _ _ _ ⟨[],rfl⟩ (c d a)
section
variable {w w':World} {mb sb:Nat}
theorem eO0.same (h:eO0 w mb sb) (a:w'.heap[mb]? = w.heap[mb]?):eO0 w' mb sb:=qS0 h a
theorem eO0.lt (h:eO0 w mb sb):mb<w.heap.size:=World.ownsMap.lt h
theorem eO0.look_yes (h:eO0 w mb sb) {s:ByteArray} (g:s.size<=maxLen) {d:Nat} (e:jS0 s.data.toList=some d):
  (Instr.lookup 37 (.map (some mb)) (.string s) true).run prog w=.ok (.tuple #[vT1 (cE0 d) (iQ0 d) (bO1.getD d 0) sb,.bool true]) w:=by
 obtain ⟨a,hk⟩:=fH0 e;obtain ⟨v,i,f,b⟩:=World.ownsMap.look_ok h keyStr underlying37 (zeroDeed w) (zd:=deedZ) (zp:=[]) rfl (keyStrAt g);obtain ⟨h1,c⟩:=vW1 sb d a;rw [hk,h1] at b;rw [f,hk,c,pT1 b]
theorem eO0.look_no (h:eO0 w mb sb) {s:ByteArray} (g:s.size<=maxLen) (d:jS0 s.data.toList=none):
  (Instr.lookup 37 (.map (some mb)) (.string s) true).run prog w=.ok (.tuple #[.agg #[U G 0,U G 0,.nilFunc],.bool false]) w:=by
 obtain ⟨v,i,f,a⟩:=World.ownsMap.look_ok h keyStr underlying37 (zeroDeed w) (zd:=deedZ) (zp:=[]) rfl (keyStrAt g);obtain ⟨h1,c⟩:=oN0 s.data.toList deedZ (oO0 sb) (D:=.map []) ⟨[],rfl⟩ (vV1 sb d);rw [h1] at a;have e:(DataW.map []).atKey (.string s.data.toList) deedZ=deedZ:=rfl;have b:Maps.has (DataW.map (H:=Unit) []) (.string s.data.toList)=false:=rfl;rw [e] at a;rw [f,c,b,kI1 a]
end
theorem dG0 {w:World} {mb n sb:Nat} {D:DataW Unit} (c:w.ownsMap prog 9 xW0 mb n D) (e:n<100) (s:ByteArray) (d:s.size<=maxLen) (a b:Int) (f:Nat):
  ∃w',(Instr.mapUpdate 37 (.map (some mb)) (.string s) (.agg #[U G a,U G b,.func (.func f) #[E (some ⟨sb,0,none⟩)] #[]])).run prog w=.ok () w'
   /\w'.ownsMap prog 9 xW0 mb (n+1) (D.put (.string s.data.toList) (iD0 a b f sb))/\w.grownBy w' (some mb):=
 c.update keyStr underlying37 (by unfold maxLen;omega) (keyStrAt d) (vU1 a b f sb)
theorem bL2 (sb:Nat) (w:World):Calls prog 8 #[E (some ⟨sb,0,none⟩)] w fun e w'=>e=Y (.map (some w.heap.size))/\eO0 w' w.heap.size sb/\Below w.heap.size w w':=by
 have a1:=@run_makeMap prog;have a0:∀(U:Fn) (first cap:Array Value) (w:World),(Instr.makeFunc U first cap).run prog w=.ok (.func U first cap) w:=fun _ _ _ _=>rfl
 have h0:=World.ownsMap_made w prog 9 xW0;obtain ⟨w1,r1,o1,V⟩:=dG0 (sb:=sb) h0 o7 ⟨#[116,97,98,108,101]⟩ d7 (-1) 1 19;obtain ⟨w2,r2,o2,W⟩:=dG0 (sb:=sb) o1 o7 ⟨#[98,97,110,100,115]⟩ d7 (3) 1 20;obtain ⟨w3,r3,o3,X⟩:=dG0 (sb:=sb) o2 o7 ⟨#[97,117,99,116,105,111,110]⟩ d7 (2) 1 21;obtain ⟨w4,r4,o4,Z⟩:=dG0 (sb:=sb) o3 o7 ⟨#[115,116,97,114,116]⟩ d7 (0) 1 22;obtain ⟨w5,r5,o5,g5⟩:=dG0 (sb:=sb) o4 o7 ⟨#[98,117,121]⟩ d7 (4) 2 23;obtain ⟨w6,r6,o6,g6⟩:=dG0 (sb:=sb) o5 o7 ⟨#[115,101,108,108]⟩ d7 (4) 2 24;obtain ⟨w7,r7,o7,g7⟩:=dG0 (sb:=sb) o6 o7 ⟨#[99,97,110,99,101,108]⟩ d7 (1) 2 25;obtain ⟨w8,r8,o8,g8⟩:=dG0 (sb:=sb) o7 (by omega) ⟨#[116,105,99,107]⟩ (by decide) (0) 2 26;obtain ⟨w9,r9,o9,g9⟩:=dG0 (sb:=sb) o8 (by omega) ⟨#[104,97,108,116]⟩ (by decide) (0) 2 27;obtain ⟨c1,a2,A,q⟩:=dG0 (sb:=sb) o9 (by omega) ⟨#[111,112,101,110]⟩ (by decide) (0) 2 28;obtain ⟨c2,a3,B,r⟩:=dG0 (sb:=sb) A (by omega) ⟨#[112,104,97,115,101]⟩ (by decide) (0) 2 29;obtain ⟨c3,a4,C,s⟩:=dG0 (sb:=sb) B (by omega) ⟨#[113,117,111,116,101]⟩ (by decide) (0) 2 30;obtain ⟨c4,a5,D,t⟩:=dG0 (sb:=sb) C (by omega) ⟨#[114,101,102,115]⟩ (by decide) (0) 2 31;obtain ⟨c5,a6,F,u⟩:=dG0 (sb:=sb) D (by omega) ⟨#[111,114,100,101,114,115]⟩ (by decide) (1) 2 32;obtain ⟨c6,a7,G,v⟩:=dG0 (sb:=sb) F (by omega) ⟨#[112,97,114,107,101,100]⟩ (by decide) (0) 2 33;obtain ⟨c7,a8,H,x⟩:=dG0 (sb:=sb) G (by omega) ⟨#[98,97,110,100]⟩ (by decide) (2) 0 34;obtain ⟨c8,a9,I,y⟩:=dG0 (sb:=sb) H (by omega) ⟨#[99,108,101,97,114]⟩ (by decide) (0) 0 35;obtain ⟨c9,c0,J,z⟩:=dG0 (sb:=sb) I (by omega) ⟨#[104,101,108,112]⟩ (by decide) (0) 0 36;have hF:=hid7 J;have c:∀{a b:World},a.grownBy b (some w.heap.size)->w.heap.size<=a.heap.size->Below w.heap.size a b:=fun {a b} g hs=>(aF _ a).grown g hs (fun k hk=>by injection hk with e;omega)
 have K:Below w.heap.size w (w.alloc (.map #[] 0)):=(aF _ w).alloc lR7 _;have L:=K.trans (c V K.size);have M:=L.trans (c W L.size);have N:=M.trans (c X M.size);have O:=N.trans (c Z N.size);have P:=O.trans (c g5 O.size);have Q:=P.trans (c g6 P.size);have R:=Q.trans (c g7 Q.size);have S:=R.trans (c g8 R.size);have T:=S.trans (c g9 S.size);have d:=T.trans (c q T.size);have f:=d.trans (c r d.size);have i:=f.trans (c s f.size);have j:=i.trans (c t i.size);have l:=j.trans (c u j.size);have m:=l.trans (c v l.size);have n:=m.trans (c x m.size);have o:=n.trans (c y n.size);have p:=o.trans (c z o.size);have hB:=hid7 p;clear o1 V L o2 W M o3 X N o4 Z O o5 g5 P o6 g6 Q o7 g7 R o8 g8 S o9 g9 T A q d B r f C s i D t j F u l G v m H x n I y o J z p K h0 c;go_enter func8,ntmps8;go_wp2;go_ret;exact ⟨rfl,hF.out,hB.out⟩
theorem infoStr:(prog.info? 9).map (fun i=>(i.zero,i.size,i.bytes))=some (some (.string ⟨#[]⟩),1,16):=k7
theorem gV0.below {w w':World} (h:gV0 w) (a:Below w.heap.size w w'):gV0 w':=by
 obtain ⟨t,f,h⟩:=h;exact ⟨t,f,(a.block _ (lt_of_block h)).trans h⟩
theorem dK0 {m:Nat}:∀(xs:List (List UInt8)) (sep:List UInt8),(∀x∈xs,x.length<=m)->(Lib.join xs sep).length<=xs.length*(m+sep.length)
 | [],_,_=>aO _
 | [x],sep,h=>by
  rw [Lib.join_one];have:=h x (aK ..);simp;omega
 | x::y::r,sep,h=>by
  have e:Lib.join (x::y::r) sep=x++sep++Lib.join (y::r) sep:=by simp [Lib.join,List.intercalate]
  have h1:=h x (aK ..);have a:=dK0 (y::r) sep (fun z b=>h z (aQ _ b));rw [e,aN,aN];simp only [List.length_cons] at a ⊢;have:(r.length+1+1)*(m+sep.length)=(r.length+1)*(m+sep.length)+(m+sep.length):=by rw [Nat.add_mul (r.length+1) 1];omega
  omega
section
variable {α:Type} {f:α->List UInt8} {l:List α} {k:Nat}
def wrdV (f:α->List UInt8) (l:List α) (k:Nat):List Value:=(l.take k).map (fun z=>Value.string (baOf (f z)))++gH (l.length - k) (.string ⟨#[]⟩)
theorem hE1 (f:α->List UInt8) (l:List α):wrdV f l 0=gH l.length (.string ⟨#[]⟩):=by simp [wrdV]
theorem bM2 (h:k<=l.length):(wrdV f l k).length=l.length:=by simp [wrdV];omega
theorem pV1 {z:α} (a:l[k]? = some z):(wrdV f l k).set k (.string (baOf (f z)))=wrdV f l (k+1):=by
 obtain ⟨hk,rfl⟩:=List.getElem?_eq_some_iff.1 a;unfold wrdV;rw [List.take_succ_eq_append_getElem hk,List.map_append,show l.length - k=(l.length - (k+1))+1 by omega,List.replicate_succ,List.set_append];rw [aA (by simp;omega)];simp only [bU,bF,show k - min k l.length=0 by omega,List.set_cons_zero,bW,fJ,List.append_assoc,List.cons_append,bX]
theorem yU1 (h:k<=l.length) {j:Nat} (b:j<l.length):∃v,(wrdV f l k)[j]? = some v/\v.oneCell'=true:=by
 have c:=bM2 (f:=f) h;refine ⟨(wrdV f l k)[j]'o7,List.getElem?_eq_getElem o7,?_⟩;have a:=List.getElem_mem (l:=wrdV f l k) (n:=j) o7;generalize (wrdV f l k)[j]'o7=v at a;unfold wrdV at a;rcases List.mem_append.1 a with a | a
 ·obtain ⟨z,_,rfl⟩:=bH.1 a;rfl
 ·rw [List.eq_of_mem_replicate a];rfl
theorem hG1 {w:World} {base g a:Nat} (h:w.ownsRow base 9 1 (J (some ⟨g,0,none⟩) l.length a) l.length (wrdV f l l.length)):qI0 w g 0 (l.map f):=fun j x b=>by
 have c:j<l.length:=by have:=(List.getElem?_eq_some_iff.1 b).1;simpa using this
 have:=h.cellAt j o7;rw [bT,this];unfold wrdV;rw [bI,Nat.sub_self,List.replicate_zero,dK,List.getElem?_map];rw [List.getElem?_map] at b;obtain ⟨y,d,rfl⟩:=Option.map_eq_some_iff.1 b;rw [d];rfl
end
theorem kK1 (b o K:Nat) (l:List Int) (w:World) (Q:∀j z,l[j]? = some z->w.cell? ⟨b,o+j,none⟩=some (U G z)) (T:∀z∈l,-9223372036854775808<=z/\z<=9223372036854775807) (h0:0<l.length) (h9:l.length<=10) (R:gV0 w):
  Calls prog 71 #[J (some ⟨b,o,none⟩) l.length K] w fun e w'=>e=Y (.string (baOf (rowT l)))/\Below w.heap.size w w':=by
 obtain ⟨i0,hi,D,E,F⟩:=info_parts infoStr;have O:=hid7 Q;have I:=hid7 T;have Z:=hid7 R;clear Q T R;go_enter func71,ntmps71;go_wp2_with (at_make;refine wpList_make_full _ rfl _ _ 49 rfl w.heap.size 9 i0 (.string ⟨#[]⟩) 1 underlying49 hi D E _ _ _ _ l.length rfl rfl (by go_num) (by go_num) (by rw [F];omega) (by unfold maxLen;omega) lR7 ?_;intro wt a C);have A:Below w.heap.size w wt:=(aF _ _).grown C lR7 (fun _ hq=>by cases hq);rw [show (Value.string ⟨#[]⟩:Value).cells=#[.string ⟨#[]⟩] from rfl,Nat.mul_one,toList_madeCells_one,<-hE1 Lib.itoa l] at a;have W:Hid _:=a;have V:=hid7 A;clear a A C hi D E F;go_wp2_with fail
 go_loopw [4,5,11] (fun _ _ u wr=>∃k:Nat,k<=l.length/\u=U G k/\wr.ownsRow w.heap.size 9 1 (J (some ⟨w.heap.size,0,none⟩) l.length l.length) l.length (wrdV Lib.itoa l k)/\Below w.heap.size w wr)
  (fun _ _ u _=>l.length - (intOf u).toNat)
 case atStart=>exact ⟨0,aO _,rfl,W.out,V.out⟩
 case round=>
  obtain ⟨k,hk,rfl,g,P⟩:=hrel;have c:=hid7 P;have s:Hid _:=g;clear g P
  by_cases d:k<l.length
  ·obtain ⟨z,i⟩:∃z,l[k]? = some z:=⟨l[k],List.getElem?_eq_getElem d⟩;have HZ:=hid7 i;have c1:wr.cell? ⟨b,o+k,none⟩=some (U G z):=(c.out.cell (p:=⟨b,o+k,none⟩) (World.block_lt_of_cell? w _ (O.out k z i))).trans (O.out k z i);have B:=I.out z (List.mem_of_getElem? i);clear i;go_wp2_with fail;refine (pB1 z wr B.1 B.2 (Z.out.below c.out)).mono ?_;rintro e N ⟨rfl,r⟩;have q:Hid (N.ownsRow w.heap.size 9 1 (J (some ⟨w.heap.size,0,none⟩) l.length l.length) l.length (wrdV Lib.itoa l k)):=aU0 s.out r lR7;have H:=hid7 (aD0 c.out r);obtain ⟨v,S,_⟩:=yU1 (f:=Lib.itoa) hk d;have c2:N.cell? ⟨w.heap.size,k,none⟩=some v:=by rw [q.out.cellAt k o7];exact S
   have f2:=q.out.frozenAt k;have X:Hid _:=(q.out.stored k (.string (baOf (Lib.itoa z)))).1;have n:Hid (Below w.heap.size w (N.setCell ⟨w.heap.size,k,none⟩ (.string (baOf (Lib.itoa z))))):=H.out.setCell (p:=⟨w.heap.size,k,none⟩) lR7 _;clear r c1 S;go_wp2_with fail;go_roundw
   case rel=>exact ⟨k+1,d,by go_num,by rw [<-pV1 HZ.out];exact X.out,n.out⟩
   case measure=>first | (simp [intOf];omega) | (show l.length - (k+1)<l.length - k;omega) | omega
  ·obtain rfl:k=l.length:=o7;have t:=hG1 s.out
   have M:(Lib.join (l.map Lib.itoa) [32]).length<=100000000:=by
    have:=dK0 (m:=21) (l.map Lib.itoa) [32] (fun x hx=>by
     obtain ⟨z,i,rfl⟩:=bH.1 hx;exact Lib.itoa_length_le z (I.out z i).1 (I.out z i).2)
    simp at this;omega
   clear d;go_wp2_with fail;have L:=bC1 w.heap.size 0 l.length (l.map Lib.itoa) [32] wr t (by simpa using h0) (by simp;omega) s7 M;rw [bU] at L;refine L.mono ?_;rintro e w3 ⟨rfl,y⟩;have n:=hid7 (aD0 c.out y);clear y t L;go_wp2_with fail;go_ret;exact ⟨rfl,n.out⟩
theorem bN2 (F:Nat->Prop) (base mb a b:Nat) (m:Mkt) (d g f:Value) (o:Ord) (w:World) (h:MkIs w F base mb a b m d g f) (k:m.L.length<=100) (c:base<=w.heap.size):
  Calls prog 95 #[E (some ⟨mb,7,none⟩),o.agg] w fun e w'=>e=Y (U G (addN o m.L))/\∃v',MkIs w' F base mb a b { m with L:=addL o m.L } v' g f/\Out (fun j=>j=mb) w w':=by
 refine (hR2 base (spM F mb a b m d g f) d m.L o w h.book k c).mono ?_;rintro e w' ⟨rfl,v',l,i⟩;exact ⟨rfl,v',h.ofBook l i,i⟩
theorem hH1 (F:Nat->Prop) (base mb p q:Nat) (m:Mkt) (W vp u:Value) (w:World) (h:MkIs w F base mb p q m W vp u) (hL:m.L.length<=100) (hP:m.P.length<=100) (T:base<=w.heap.size):
  Calls prog 103 #[E (some ⟨mb,0,none⟩)] w fun e w'=>e=Y (.tuple #[])/\∃v',MkIs w' F base mb p q (kC0 m) v' (J none 0 0) u/\Out (fun j=>j=mb) w w':=by
 obtain ⟨x,y,hv,V⟩:=dS0.of_row h.pk;subst hv;have N:(w.setCell ⟨mb,10,none⟩ (U G 5)).cell? ⟨mb,8,none⟩=some (J x m.P.length y):=aA0 (j:=8) (aJ0 (j:=10) (U G 5) h.box) rfl;have Q:=aB0 (j:=10) h.box;have M:w.cell? ⟨mb,10,none⟩=some (U G m.ph):=aA0 (j:=10) h.box rfl;have B:Hid (MkIs (w.setCell ⟨mb,10,none⟩ (U G 5)) F base mb p q { m with ph:=5 } W (J x m.P.length y) u):=h.write (j:=10) (m':={ m with ph:=5 }) rfl rfl rfl rfl rfl;have K:Hid (Out (fun j=>j=mb) w (w.setCell ⟨mb,10,none⟩ (U G 5))):=aM0 w ⟨mb,10,none⟩ (U G 5);clear h V;go_enter func103,ntmps103;go_wp2_with fail;generalize w.setCell ⟨mb,10,none⟩ (U G 5)=w0 at N B K ⊢;clear Q M;go_loopw [12] (fun u12 wr=>∃(k:Nat) (v:Value),u12=U G k/\k<=m.P.length/\MkIs wr F base mb p q { m with ph:=5,L:=(m.P.take k).foldl (fun L o=>addL o L) m.L } v (J x m.P.length y) u/\Out (fun j=>j=mb) w wr) (fun u12 _=>m.P.length - (intOf u12).toNat)
 case atStart=>exact ⟨0,W,rfl,aO _,B.out,K.out⟩
 case round=>
  obtain ⟨k,v,rfl,hk,z,i⟩:=hrel;clear B K;have d:Hid _:=z;have H:Hid _:=i;have X:Hid (((m.P.take k).foldl (fun L o=>addL o L) m.L).length<=100):=hC1 _ _ hL
  by_cases f:k<m.P.length
  ·have a1:(k:Int)<(m.P.length:Int):=o7;obtain ⟨g,a0,O,d0,d1,d2,d3,d4⟩:=cT0 z.pk f;injection O with O _ e2;subst O e2;have Z:Hid _:=pJ1 m.L f;clear z i;go_wp2_with fail;have A:=heap_alloc_new wr (R #[U G (oAt m.P k).id,U G (oAt m.P k).side,U G (oAt m.P k).kind,U G (oAt m.P k).price,U G (oAt m.P k).qty] 92);have b:=bel1 wr (R #[U G (oAt m.P k).id,U G (oAt m.P k).side,U G (oAt m.P k).kind,U G (oAt m.P k).price,U G (oAt m.P k).qty] 92);generalize wr.alloc (R #[U G (oAt m.P k).id,U G (oAt m.P k).side,U G (oAt m.P k).kind,U G (oAt m.P k).price,U G (oAt m.P k).qty] 92)=w1 at A b ⊢;have C:Hid _:=d.out.below b;have l:Hid (Out (fun j=>j=mb) w w1):=H.out.trans (aL b lR7) (aJ _ _);have c:=lt_of_block A;have s:wr.heap.size≠mb:=by have:=lt_of_block d.out.box;omega
   have I:Hid (∀w',Out (fun j=>j=mb) w1 w'->w'.cell? ⟨wr.heap.size,0,none⟩=some (U G (oAt m.P k).id)/\w'.cell? ⟨wr.heap.size,1,none⟩=some (U G (oAt m.P k).side)/\w'.cell? ⟨wr.heap.size,2,none⟩=some (U G (oAt m.P k).kind)/\w'.cell? ⟨wr.heap.size,3,none⟩=some (U G (oAt m.P k).price)/\w'.cell? ⟨wr.heap.size,4,none⟩=some (U G (oAt m.P k).qty)/\Out (fun j=>j=mb) w1 w'):=fun w' i=>by
    have a:=(i.block _ c s).trans A;exact ⟨bG0 (j:=0) a rfl,bG0 (j:=1) a rfl,bG0 (j:=2) a rfl,bG0 (j:=3) a rfl,bG0 (j:=4) a rfl,i⟩
   have S:base<=w1.heap.size:=aI T l.out.size;clear A b d0 d1 d2 d3 d4 d H N c s
   go_region_held3 (fun w'=>w'.cell? ⟨wr.heap.size,0,none⟩=some (U G (oAt m.P k).id)/\w'.cell? ⟨wr.heap.size,1,none⟩=some (U G (oAt m.P k).side)/\w'.cell? ⟨wr.heap.size,2,none⟩=some (U G (oAt m.P k).kind)/\w'.cell? ⟨wr.heap.size,3,none⟩=some (U G (oAt m.P k).price)/\w'.cell? ⟨wr.heap.size,4,none⟩=some (U G (oAt m.P k).qty)/\Out (fun j=>j=mb) w1 w')
    ((refine I.out _ ?_;(first | exact n.out | exact bL _ _ | exact aW0 (bL _ _))))
    ((go_at_call 95;refine (bN2 F base mb p q _ v _ u (oAt m.P k) w1.drew C.out.drew X.out (by simpa using S)).mono ?_;rintro e w2 ⟨rfl,v2,r,t⟩;have D:Hid _:=r;have n:Hid (Out (fun j=>j=mb) w1 w2):=(aW0 (bL _ _)).trans t (aJ _ _);clear r t))
   go_wp2_with fail;go_roundw
   case rel=>exact ⟨k+1,v2,by go_num,f,by rw [Z.out];exact D.out,l.out.trans n.out (aJ _ _)⟩
   case measure=>first | (simp [intOf];omega) | (show m.P.length - (k+1)<m.P.length - k;omega) | omega
  ·obtain rfl:k=m.P.length:=o7;rw [bI] at d X;have f8:=aB0 (j:=8) d.out.box;have c9:wr.cell? ⟨mb,8,none⟩=some (J x m.P.length y):=aA0 (j:=8) d.out.box rfl;clear z i N;go_wp2_with fail;refine bodyPost_end (results_none rfl _ _ _) rfl ?_;exact ⟨rfl,v,d.out.parks (P':=[]) (World.ownsRow_nil _ _ _ _) (fun _ hj=>by cases hj),H.out.trans (aM0 _ ⟨mb,8,none⟩ _) (aJ _ _)⟩
def spP (F:Nat->Prop) (mb bt ct:Nat) (m:Mkt) (vb vp vi:Value):Spot:=⟨mb,8,103,mkV (J (some ⟨bt,0,none⟩) m.rs.length ct) m vb vp vi,F⟩
theorem MkIs.wait {w:World} {F:Nat->Prop} {base mb b c:Nat} {m:Mkt} {d a e:Value} (h:MkIs w F base mb b c m d a e):BookIs w base (spP F mb b c m d a e) a m.P:=⟨by show 8<14;decide,⟨by show (103:TypeId)≠92;decide,by show (103:TypeId)≠146;decide⟩,h.box,h.pk,h.lim,h.farp⟩
theorem MkIs.ofWait {w w':World} {F:Nat->Prop} {base mb b c:Nat} {m:Mkt} {f g vi v':Value} {P':List Ord} (h:MkIs w F base mb b c m f g vi) (a:BookIs w' base (spP F mb b c m f g vi) v' P') (d:Out (fun j=>j=mb) w w'):MkIs w' F base mb b c { m with P:=P' } f v' vi:=
 ⟨a.box,eG0 h.tab d h.tne,h.tne,aK0 h.bk d (fun k hk e=>aH0 h.bk h.box d7 (hk.trans (congrArg some e))),a.all,aK0 h.ids d (fun k hk e=>aH0 h.ids h.box d7 (hk.trans (congrArg some e))),a.lim,h.farb,a.far,h.fari⟩
theorem bQ1 (F:Nat->Prop) (base mb c d:Nat) (m:Mkt) (i n l:Value) (id:Int) (w:World) (h:MkIs w F base mb c d m i n l) (p:m.L.length<=100) (g:base<=w.heap.size):
  Calls prog 100 #[E (some ⟨mb,7,none⟩),U G id] w fun e w'=>∃o:Ord,e=Y (.tuple #[o.agg,U G (canN id m.L)])/\∃v',MkIs w' F base mb c d { m with L:=canL id m.L } v' n l/\Out (fun j=>j=mb) w w':=by
 refine (uP1 base (spM F mb c d m i n l) i m.L id w h.book p g).mono ?_;rintro e w' ⟨b,v',⟨h1,rfl,f⟩ | ⟨k,hk,h1,_,rfl,f⟩⟩
 ·refine ⟨_,by unfold canN;rw [aB h1],v',?_,b⟩;have:=h.ofBook f b;unfold canL;rw [aB h1];exact this
 ·have a:¬idxO id m.L=-1:=o7;refine ⟨_,by unfold canN;rw [aA a],v',?_,b⟩;have:=h.ofBook f b;unfold canL;rw [aA a,h1];exact this
theorem vX1 (F:Nat->Prop) (base mb bt ct:Nat) (m:Mkt) (vb vp vi:Value) (id:Int) (w:World) (h:MkIs w F base mb bt ct m vb vp vi) (hL:m.L.length<=100) (hP:m.P.length<=100) (a8:base<=w.heap.size):
  Calls prog 54 #[E (some ⟨mb,0,none⟩),U G id] w fun e w'=>e=Y (U G (kB0 m id))/\∃vb' vp',MkIs w' F base mb bt ct (canM m id) vb' vp' vi/\Out (fun j=>j=mb) w w':=by
 have a6:w.cell? ⟨mb,10,none⟩=some (U G m.ph):=aA0 (j:=10) h.box rfl;have c8:w.cell? ⟨mb,8,none⟩=some vp:=aA0 (j:=8) h.box rfl;have H:=hid7 h
 by_cases r:m.ph=7
 ·have e7:=beq_iff_eq.2 r;have HN:Hid (kB0 m id=6/\canM m id=m):=⟨by unfold kB0;rw [aB r],by unfold canM;rw [aB r]⟩;clear r h;go_enter func54,ntmps54;go_wp2_with fail;go_ret;exact ⟨by rw [HN.out.1];rfl,vb,vp,by rw [HN.out.2];exact H.out,bL _ _⟩
 ·have e7:=aC.2 r;have HY:Hid (∀k:Nat,idxO id m.P=k->kB0 m id=0/\canM m id={ m with P:=dT0 k m.P }):=fun k hk=>⟨by unfold kB0;rw [aA r,aB o7],by unfold canM;rw [aA r,aB o7,hk];rfl⟩
  have HZ:Hid (idxO id m.P=-1->kB0 m id=canN id m.L/\canM m id={ m with L:=canL id m.L }):=fun hk=>⟨by unfold kB0;rw [aA r,aA o7],by unfold canM;rw [aA r,aA o7]⟩
  obtain ⟨ao,i,rfl,_,_⟩:=bO0 h.pk;clear r h;go_enter func54,ntmps54;go_wp2_with fail;go_loopw [19] (fun v wr=>∃k:Nat,k<=m.P.length/\v=U G k/\Below w.heap.size w wr/\idxF id k (m.P.drop k)=idxO id m.P) (fun v _=>m.P.length - (intOf v).toNat)
  case atStart=>exact ⟨0,aO _,rfl,aF _ _,rfl⟩
  case round=>
   obtain ⟨k,hk,rfl,hb,hq⟩:=hrel;have D:=hid7 hb;have HQ:=hid7 hq;clear hb hq
   by_cases x:k<m.P.length
   ·obtain ⟨g,b5,hv,d0,d1,d2,d3,d4⟩:=cT0 (H.out.below D.out).pk x;simp only [Value.slice.injEq,true_and] at hv;obtain ⟨rfl,rfl⟩:=hv
    by_cases N:(oAt m.P k).id=id
    ·have HX:Hid (idxO id m.P=k):=by show _=_;rw [<-HQ.out,wI0 x N]
     rw [N] at d0;clear N;obtain ⟨i0,u,y,z,A⟩:=info_parts infoOrd;go_upto_region 7 with fail;generalize hW:wr.alloc (R #[U G id,U G (oAt m.P k).side,U G (oAt m.P k).kind,U G (oAt m.P k).price,U G (oAt m.P k).qty] 92)=w2;have O:Below wr.heap.size wr w2:=by rw [<-hW];exact aK1 _ _
     have I:=hid7 (aD0 D.out O);have K:=hid7 (H.out.below I.out);have a:=hid7 K.out.wait;have c2:w2.cell? ⟨mb,8,none⟩=some (J (some ⟨g,0,none⟩) m.P.length i):=a.out.cell;have f2:w2.frozen? ⟨mb,8,none⟩=false:=a.out.free;have Z:=lt_of_block K.out.box;have b:base<=w2.heap.size:=by have:=I.out.size;omega
     have q1:(0:Int)<=(k:Int):=o7;have q2:(k:Int)<m.P.length:=o7;clear O hW d0 d1 d2 d3 d4 c8 a6 H D HQ;go_cut [44] (fun _ wc=>∃g' n' c',BookIs wc base (spP F mb bt ct m vb (J (some ⟨g,0,none⟩) m.P.length i) vi) (J (some ⟨g',0,none⟩) n' c') (dT0 k m.P)/\w2.heap.size<=g'/\Out (·=mb) w2 wc)
     case first=>
      have q3:(k:Int)<=(i:Int):=o7;have q4:IntKind.i64.wrap ((k:Int)+1)=(k:Int)+1:=IntWalk.i64_in _ o7;have q5:(0:Int)<=(k:Int)+1:=o7;have q6:(k:Int)+1<=(m.P.length:Int):=o7;have b7:(m.P.length:Int)<=(i:Int):=o7;have q8:((k:Int)+1).toNat=k+1:=o7;have a0:0+k<=maxLen:=by unfold maxLen;omega
      have b0:k+(m.P.length - (k+1))<=maxLen:=by unfold maxLen;omega
      have LA:Hid ((oV (m.P.take k)).length=k*5):=(cB0 _).trans (by rw [bF,Nat.min_eq_left o7]);have LB:Hid ((oV (m.P.drop (k+1))).length=(m.P.length - (k+1))*5):=(cB0 _).trans (by rw [dC])
      by_cases a9:i=k+1
      ·subst a9;have b1:k+0<=maxLen:=by unfold maxLen;omega
       have q9:(k:Int)<=(k:Int)+1:=o7;go_region_law (first | (refine bA0 _ r7 (.tmp 29) (.tmp 35) 99 r7 base 92 i0 _ 5 40 underlying99 u y z A r7 o7 _ 0 0 [] r7 (eK0 (heap_alloc_new _ _) b) _ k _ (oV (m.P.take k)) r7 LA.out (Lies.take a.out.all q7) (jH0 _) a0 o7 (jC0 q7 b) ?_;intro gA cA wA f l c S;have s:Below w2.heap.size w2 wA:=cQ0 q7 l lR7;have W:w2.heap.size<=gA:=iB0 q7 c lR7;have lA:w2.heap.size<=wA.heap.size:=s.size;have b2:wA.cell? ⟨mb,8,none⟩=some (J (some ⟨g,0,none⟩) m.P.length _):=(a.out.below s lR7).cell;rw [bT,bX] at f;have OA:Hid _:=f;have C:Hid _:=s;clear f c s l) | (refine bA0 _ r7 (.tmp 36) (.tmp 43) 99 r7 base 92 i0 _ 5 40 underlying99 u y z A r7 o7 _ _ _ _ r7 (cR0 (B:=wA.heap.size) OA.out q7 lR7) _ 0 _ [] r7 r7 (aH ⟨rfl,rfl⟩) s7 b1 o7 (jC0 (eL0 C.out q7) b) ?_;intro gB cB wB q n d p;have t:Below w2.heap.size w2 wB:=cQ0 (eL0 C.out q7) n W;have X:w2.heap.size<=gB:=iB0 (eL0 C.out q7) d W;have M:=a.out.below t lR7;have b3:wB.cell? ⟨mb,8,none⟩=some (J (some ⟨g,0,none⟩) m.P.length _):=M.cell;have b4:wB.frozen? ⟨mb,8,none⟩=false:=M.free;have lB:mb<wB.heap.size:=aT Z t.size;have OB:Hid _:=q;have BB:Hid _:=t;clear M q d p n t))
       all_goals go_wp2_with fail
       all_goals go_meet
       all_goals (have Q:=kS0 (l':=dT0 k m.P) a.out (aF _ _) BB.out OB.out X (by unfold dT0;simp;omega) (by unfold dT0;rw [cL0,cI o7];rfl);exact ⟨_,_,_,Q.1,X,Q.2⟩)
      ·go_region_law (first | (refine bA0 _ r7 (.tmp 29) (.tmp 35) 99 r7 base 92 i0 _ 5 40 underlying99 u y z A r7 o7 _ 0 0 [] r7 (eK0 (heap_alloc_new _ _) b) _ k _ (oV (m.P.take k)) r7 LA.out (Lies.take a.out.all q7) (jH0 _) a0 o7 (jC0 q7 b) ?_;intro gA cA wA f l c S;have s:Below w2.heap.size w2 wA:=cQ0 q7 l lR7;have W:w2.heap.size<=gA:=iB0 q7 c lR7;have lA:w2.heap.size<=wA.heap.size:=s.size;have b2:wA.cell? ⟨mb,8,none⟩=some (J (some ⟨g,0,none⟩) m.P.length _):=(a.out.below s lR7).cell;rw [bT,bX] at f;have OA:Hid _:=f;have C:Hid _:=s;clear f c s l) | (refine bA0 _ r7 (.tmp 36) (.tmp 43) 99 r7 base 92 i0 _ 5 40 underlying99 u y z A r7 o7 _ _ _ _ r7 (cR0 (B:=wA.heap.size) OA.out q7 lR7) _ (m.P.length - (k+1)) _ (oV (m.P.drop (k+1))) r7 LB.out (by first | exact Lies.drop a.out.all (eL0 C.out q7) | exact aH ⟨o7,by rw [cI o7];rfl⟩) (jH0 _) b0 o7 (jC0 (eL0 C.out q7) b) ?_;intro gB cB wB q n d p;have t:Below w2.heap.size w2 wB:=cQ0 (eL0 C.out q7) n W;have X:w2.heap.size<=gB:=iB0 (eL0 C.out q7) d W;have M:=a.out.below t lR7;have b3:wB.cell? ⟨mb,8,none⟩=some (J (some ⟨g,0,none⟩) m.P.length _):=M.cell;have b4:wB.frozen? ⟨mb,8,none⟩=false:=M.free;have lB:mb<wB.heap.size:=aT Z t.size;have OB:Hid _:=q;have BB:Hid _:=t;clear M q d p n t))
       all_goals go_wp2_with fail
       all_goals go_meet
       all_goals (have Q:=kS0 (l':=dT0 k m.P) a.out (aF _ _) BB.out OB.out X (by unfold dT0;simp;omega) (by unfold dT0;rw [cL0]);exact ⟨_,_,_,Q.1,X,Q.2⟩)
     case rest=>
      obtain ⟨g',n',c',h1,h2,h3⟩:=hcut;have a2:Hid _:=K.out.ofWait h1 h3;have a4:Hid (Out (fun j=>j=mb) w wc):=(aL I.out lR7).trans h3 (aJ _ _);clear h1 h2 h3;go_wp2_with fail;go_ret;exact ⟨by rw [(HY.out k HX.out).1];rfl,vb,_,by rw [(HY.out k HX.out).2];exact a2.out,a4.out⟩
    ·have b6:=aC.2 N;have HX:=hid7 N;clear N;go_wp2_with fail;go_roundw
     case rel=>exact ⟨k+1,x,by go_num,D.out.alloc D.out.size _,(rM0 x HX.out).trans HQ.out⟩
     case measure=>first | (simp [intOf];omega) | (show m.P.length - (k+1)<m.P.length - k;omega) | omega
   ·have HI:Hid (idxO id m.P=-1):=by show _=_;rw [<-HQ.out,wJ0 o7]
    have a1:Hid _:=H.out.below D.out;have a7:base<=wr.heap.size:=aI a8 D.out.size;go_wp2_with fail;refine (bQ1 F base mb bt ct m vb _ vi id wr a1.out hL a7).mono ?_;rintro e w5 ⟨o,rfl,v5,T,V⟩;unfold Ord.agg;have a3:Hid _:=T;have a5:Hid _:=V;clear T V;go_wp2_with fail;go_ret;exact ⟨by rw [(HZ.out HI.out).1];rfl,v5,_,by rw [(HZ.out HI.out).2];exact a3.out.below (bel1 _ _),(aL D.out lR7).trans (a5.out.trans (aL (bel1 _ _) lR7) (aJ _ _)) (aJ _ _)⟩
theorem tZ0 (n lo hi:Int) (w:World):
  Calls prog 60 #[U G n,U G lo,U G hi] w fun e w'=>e=Y (.bool (inB lo hi n))/\w'=w:=by
 go_enter func60,ntmps60;go_wp2
 all_goals
  go_ret;exact ⟨qT0 (by unfold inB;first | (simp [*];done) | (simp [*];omega)),rfl⟩
theorem lK0 (p q:Int) (w:World):
  Calls prog 91 #[U G p,U G q] w fun e w'=>e=Y (.bool (cZ0 p q))/\w'=w:=by
 cases hp:inB 1 1000000 p with
 | false=>
  have b:Hid (cZ0 p q=false):=by unfold cZ0;rw [hp];rfl
  have a:=hid7 hp;clear hp;go_enter func91,ntmps91;go_wp2_with fail;refine (tZ0 p 1 1000000 _).mono ?_;rintro e w' ⟨rfl,rfl⟩;rw [a.out];go_wp2_with fail;go_ret;exact ⟨by rw [b.out];rfl,rfl⟩
 | true=>
  have b:Hid (cZ0 p q=inB 1 1000000 q):=by unfold cZ0;rw [hp];rfl
  have a:=hid7 hp;clear hp;go_enter func91,ntmps91;go_wp2_with fail;refine (tZ0 p 1 1000000 _).mono ?_;rintro e w' ⟨rfl,rfl⟩;rw [a.out];go_wp2_with fail;refine (tZ0 q 1 1000000 _).mono ?_;rintro e w' ⟨rfl,rfl⟩;go_wp2_with fail;go_ret;exact ⟨by rw [b.out];rfl,rfl⟩
theorem nF0 (p s:Int) (w:World):
  Calls prog 50 #[U G p,U G s] w fun e w'=>e=Y (.tuple #[U G (bandL p s),U G (bandH p s),U G (mZ0 p s)])/\w'=w:=by
 cases hp:inB 1 1000000 p with
 | false=>
  have hk:cO0 p s=false:=by unfold cO0;rw [hp];rfl
  have a:Hid (bandL p s=0/\bandH p s=0/\mZ0 p s=2):=⟨wZ0 hk,xA0 hk,fY1 hk⟩;have b:=hid7 hp;clear hp hk;go_enter func50,ntmps50;go_wp2_with fail;refine (lK0 p 1 _).mono ?_;rintro e w' ⟨rfl,rfl⟩;rw [jW0,b.out];go_wp2_with fail;go_ret3;exact ⟨by rw [a.out.1,a.out.2.1,a.out.2.2];rfl,rfl⟩
 | true=>
  cases hs:inB 0 10000 s with
  | false=>
   have hk:cO0 p s=false:=by unfold cO0;rw [hp,hs];rfl
   have a:Hid (bandL p s=0/\bandH p s=0/\mZ0 p s=2):=⟨wZ0 hk,xA0 hk,fY1 hk⟩;have b:=hid7 hp;have c:=hid7 hs;clear hp hk hs;go_enter func50,ntmps50;go_wp2_with fail;refine (lK0 p 1 _).mono ?_;rintro e w' ⟨rfl,rfl⟩;rw [jW0,b.out];go_wp2_with fail;refine (tZ0 s 0 10000 _).mono ?_;rintro e w' ⟨rfl,rfl⟩;rw [c.out];go_wp2_with fail;go_ret3;exact ⟨by rw [a.out.1,a.out.2.1,a.out.2.2];rfl,rfl⟩
  | true=>
   have hk:cO0 p s=true:=by unfold cO0;rw [hp,hs];rfl
   have a:Hid (bandL p s=max 1 (p - p*s / 10000)/\bandH p s=min 1000000 (p+p*s / 10000)/\mZ0 p s=0):=⟨fW1 hk,fX1 hk,tB1 hk⟩;have b:=hid7 hp;have c:=hid7 hs;have d:=eR0 hp;have f:=eR0 hs;have g:=zM0 d f;clear hp hk hs;go_enter func50,ntmps50;go_wp2_with fail;refine (lK0 p 1 _).mono ?_;rintro e w' ⟨rfl,rfl⟩;rw [jW0,b.out];go_wp2_with fail;refine (tZ0 s 0 10000 _).mono ?_;rintro e w' ⟨rfl,rfl⟩;rw [c.out];go_wp2_with fail
   all_goals
    go_ret3;exact ⟨by rw [a.out.1,a.out.2.1,a.out.2.2];exact fV1 o7 o7,rfl⟩
theorem pW1 (mb:Nat) (m:Mkt) (r n q o:Value) (p:Int) (w:World) (h:w.heap[mb]? = some (R (mkV r m n q o) 103 (0,0))):
  Calls prog 105 #[E (some ⟨mb,0,none⟩),U G p] w fun e w'=>e=Y (.bool (gI0 m.st m.an p))/\Below w.heap.size w w':=by
 have k1:=cell_regrown (dO0 (j:=1) h rfl);have k3:=cell_regrown (dO0 (j:=3) h rfl);have k:∀a l,Calls prog 50 #[U G m.an,U G m.st] (Go.Sort.grow (redrawn w a) l) fun e i=>e=Y (.tuple #[U G (bandL m.an m.st),U G (bandH m.an m.st),U G (mZ0 m.an m.st)])/\∃p:Regrown,i=Go.Sort.grow (redrawn w p.d) p.os:=fun a l=>Calls.regrown_of ((nF0 m.an m.st _).mono fun e w' ⟨he,hw⟩=>⟨he,by rw [hw];exact aF _ _⟩)
 clear h;go_enter func105,ntmps105;go_wp2_with fail;refine wp_region_quiet_below k7 k7 ?_
 repeat (go_big_quiet_step (exact k _ _))
 refine wpQuiet_nil ?_;intro _ g;obtain ⟨⟨a,f⟩,c⟩:=g;subst c;have b:=below_regrown w a f;generalize Go.Sort.grow (redrawn w a) f=w5 at b ⊢;clear k1 k3 k;go_wp2_with fail;refine (tZ0 p _ _ _).mono ?_;rintro e w' ⟨rfl,rfl⟩;go_wp2;go_ret;exact ⟨rfl,b⟩
theorem pX1 (mb:Nat) (m:Mkt) (v s u t:Value) (p:Int) (w:World) (h:w.heap[mb]? = some (R (mkV v m s u t) 103 (0,0))):
  Calls prog 97 #[E (some ⟨mb,0,none⟩),U G p] w fun e w'=>e=Y (.bool (dZ0 m.st m.dy m.an m.la p))/\Below w.heap.size w w':=by
 have k2:=cell_regrown (dO0 (j:=2) h rfl);have y:=cell_regrown (dO0 (j:=4) h rfl);have q:∀c r,Calls prog 50 #[U G m.la,U G m.dy] (Go.Sort.grow (redrawn w c) r) fun e n=>e=Y (.tuple #[U G (bandL m.la m.dy),U G (bandH m.la m.dy),U G (mZ0 m.la m.dy)])/\∃p:Regrown,n=Go.Sort.grow (redrawn w p.d) p.os:=fun c r=>Calls.regrown_of ((nF0 m.la m.dy _).mono fun e w' ⟨he,hw⟩=>⟨he,by rw [hw];exact aF _ _⟩)
 have x:=hid7 h;clear h;go_enter func97,ntmps97;go_wp2_with fail;refine wp_region_quiet_below k7 k7 ?_
 repeat (go_big_quiet_step (exact q _ _))
 refine wpQuiet_nil ?_;intro _ l;obtain ⟨⟨c,i⟩,g⟩:=l;subst g;have a:=below_regrown w c i;generalize Go.Sort.grow (redrawn w c) i=w5 at a ⊢;have o:=hid7 a;clear k2 y q a;go_wp2_with fail;refine (pW1 mb m v s u t p _ (gI1 x.out o.out lR7)).mono ?_;rintro e z ⟨rfl,f⟩;have b:=hid7 (jR0 o.out f);clear f;cases hc:gI0 m.st m.an p with
 | true=>
  have k:Hid (dZ0 m.st m.dy m.an m.la p=gI0 m.dy m.la p):=by unfold dZ0;rw [hc];rfl
  clear hc;go_wp2_with fail;refine (tZ0 p _ _ _).mono ?_;rintro e w' ⟨rfl,rfl⟩;go_wp2;go_ret;exact ⟨by rw [k.out];rfl,b.out⟩
 | false=>
  have k:Hid (dZ0 m.st m.dy m.an m.la p=false):=by unfold dZ0;rw [hc];rfl
  clear hc;go_wp2_with fail;go_ret;exact ⟨by rw [k.out];rfl,b.out⟩
theorem bO2 (F:Nat->Prop) (base mb d f:Nat) (m:Mkt) (a c b:Value) (p:Int) (w:World) (h:MkIs w F base mb d f m a c b):
  Calls prog 105 #[E (some ⟨mb,0,none⟩),U G p] w fun e w'=>e=Y (.bool (gI0 m.st m.an p))/\Below w.heap.size w w':=pW1 mb m _ a c b p w h.box
def laM (m:Mkt) (ts:List Int):Mkt:={ m with la:=dE0 m.la ts }
structure MkS (F:Nat->Prop) (base mb bt ct pb:Nat) (m:Mkt) (vp vi:Value) (W:World) (sp:Spot) (ts:List Int):Prop where
 spot:∃vb,sp=spM F mb bt ct (laM m ts) vb vp vi
 box:∃vb,W.heap[mb]? = some (R (mkV (J (some ⟨bt,0,none⟩) m.rs.length ct) (laM m ts) vb vp vi) 103 (0,0))
 tab:cV0 W bt 0 m.rs
 pk:W.ownsRow base 92 5 vp m.P.length (oV m.P)
 ids:W.ownsRow base 3 1 vi m.I.length (nV m.I)
 ptr:W.heap[pb]? = some (R #[E (some ⟨mb,0,none⟩)] 55 (0,0))
structure MkOld (w:World) (mb bt pb:Nat) (vp vi:Value):Prop where
 at1:mb<w.heap.size
 at2:bt<w.heap.size
 at3:pb<w.heap.size
 ne:bt≠mb/\pb≠mb
 r1:∀j,vp.ownBlock=some j->j<w.heap.size
 r2:∀j,vi.ownBlock=some j->j<w.heap.size
section
variable {w:World} {F:Nat->Prop} {base mb bt ct pb:Nat} {m:Mkt} {vp vi:Value}
theorem fI2 (h:MkOld w mb bt pb vp vi):StOk w base (MkS F base mb bt ct pb m vp vi) where
 below:=fun a f=>⟨a.spot,a.box.imp fun _ i=>aE0 i f lR7,a.tab.below f lR7,aU0 a.pk f lR7,aU0 a.ids f lR7,aE0 a.ptr f lR7⟩
 news:=fun a c n=>
  have b:∀{j},j<w.heap.size->¬_:=fun {j} hj hj2=>absurd (n j hj2) o7
  ⟨a.spot,a.box.imp fun _ i=>aF0 i c (b h.at1),eG0 a.tab c (b h.at2),aK0 a.pk c (fun k hk=>b (h.r1 k hk)),aK0 a.ids c (fun k hk=>b (h.r2 k hk)),aF0 a.ptr c (b h.at3)⟩
 book:=fun {W W' sp ts v v' l l'} a _ hb2 c=>by
  obtain ⟨o,g⟩:=a.spot;obtain ⟨p,d⟩:=a.box;subst g;exact ⟨⟨o,rfl⟩,⟨v',hb2.box⟩,eG0 a.tab c h.ne.1,aK0 a.pk c (fun k hk e=>aH0 a.pk d d7 (hk.trans (congrArg some e))),aK0 a.ids c (fun k hk e=>aH0 a.ids d d7 (hk.trans (congrArg some e))),aF0 a.ptr c h.ne.2⟩
theorem bP2:AskS 97 #[E (some ⟨mb,0,none⟩)] #[] (alM m) (MkS F base mb bt ct pb m vp vi) where
 enters:=fun args w=>by rfl
 tells:=fun {W sp ts} hs p _ _=>by
  obtain ⟨b,a⟩:=hs.box;exact pX1 mb (laM m ts) _ b vp vi p W a
theorem fJ2 (pb:Nat) (W:World) (f d vp vi:Value) (m:Mkt) (p:Int) (b:W.heap[pb]? = some (R #[E (some ⟨mb,0,none⟩)] 55 (0,0))) (a:W.heap[mb]? = some (R (mkV f m d vp vi) 103 (0,0))):
  Calls prog 98 #[U G p,E (some ⟨pb,0,none⟩)] W fun e c=>e=Y (.tuple #[])/\c=W.setCell ⟨mb,4,none⟩ (U G p):=by
 have g:W.cell? ⟨pb,0,none⟩=some (E (some ⟨mb,0,none⟩)):=aA0 (j:=0) b rfl;have i:W.cell? ⟨mb,4,none⟩=some (U G m.la):=aA0 (j:=4) a rfl;have k:=aB0 (j:=4) a;clear b a;go_enter func98,ntmps98;go_wp2_with fail;refine bodyPost_end (results_none rfl _ _ _) rfl ?_;exact ⟨rfl,rfl⟩
theorem vY1 (h:MkOld w mb bt pb vp vi):TellS 98 #[] #[E (some ⟨pb,0,none⟩)] base (MkS F base mb bt ct pb m vp vi) where
 enters:=fun _ _=>by rfl
 tells:=fun {W sp ts v l} hs hb p _ _=>by
  obtain ⟨g,d⟩:=hs.spot;subst d;have a:W.heap[mb]? = some (R (mkV (J (some ⟨bt,0,none⟩) m.rs.length ct) (laM m ts) v vp vi) 103 (0,0)):=hb.box;refine (fJ2 pb W _ v vp vi (laM m ts) p hs.ptr a).mono ?_;rintro e n ⟨rfl,rfl⟩;have b:=aM0 W ⟨mb,4,none⟩ (U G p);have f:laM m (ts++[p])={ m with la:=p }:=by unfold laM;rw [pJ0]
  have c:(W.setCell ⟨mb,4,none⟩ (U G p)).heap[mb]? = some (R (mkV (J (some ⟨bt,0,none⟩) m.rs.length ct) { m with la:=p } v vp vi) 103 (0,0)):=aJ0 (j:=4) (U G p) a;refine ⟨rfl,spM F mb bt ct (laM m (ts++[p])) g vp vi,rfl,rfl,?_,?_,b⟩
  ·rw [f];exact ⟨by show 7<14;decide,hb.ty,c,aK0 hb.all b (fun k hk e=>aH0 hb.all a (by decide) (hk.trans (congrArg some e))),fun j i=>aT (hb.lim j i) b.size,hb.far⟩
  ·exact ⟨⟨g,rfl⟩,⟨v,by rw [f];exact c⟩,eG0 hs.tab b h.ne.1,aK0 hs.pk b (fun k hk e=>aH0 hs.pk a (by decide) (hk.trans (congrArg some e))),aK0 hs.ids b (fun k hk e=>aH0 hs.ids a (by decide) (hk.trans (congrArg some e))),aF0 hs.ptr b h.ne.2⟩
end
theorem pY1 (F:Nat->Prop) (base mb bt ct pb:Nat) (m:Mkt) (d vp vi:Value) (o:Ord) (w:World) (h:MkIs w F base mb bt ct m d vp vi) (r:w.heap[pb]? = some (R #[E (some ⟨mb,0,none⟩)] 55 (0,0))) (v:m.L.length<=100) (p:LOk m.L) (k:base<=w.heap.size) (A:0<m.rs.length) (c:o.side=1\/o.side=2) (D:1<=o.qty/\o.qty<=1000000):
  Calls prog 96 #[E (some ⟨mb,7,none⟩),.agg #[U G o.id,U G o.side,U G o.kind,U G o.price,U G o.qty],.func (.func 97) #[E (some ⟨mb,0,none⟩)] #[],.func (.func 98) #[] #[E (some ⟨pb,0,none⟩)]] w
   fun e w'=>∃i v',e=Y (.tuple #[i,.agg #[U G o.id,U G o.side,U G o.kind,U G o.price,U G (bN0 m o).1.q],.bool (bN0 m o).2])/\w'.ownsRow w.heap.size 146 4 i (bN0 m o).1.fs.length (fV (bN0 m o).1.fs)
    /\MkIs w' F base mb bt ct { m with L:=(bN0 m o).1.L,la:=dE0 m.la (bN0 m o).1.ts } v' vp vi/\Out (fun j=>j=mb) w w':=by
 have a:MkOld w mb bt pb vp vi:=⟨lt_of_block h.box,by
  have h1:=(h.tab.row A).1;exact World.block_lt_of_cell? w _ h1,lt_of_block r,⟨h.tne,dQ0 r h.box d7⟩,fun j l=>(h.pk.lt j l).2,fun j l=>(h.ids.lt j l).2⟩
 have u:MkS F base mb bt ct pb m vp vi w (spM F mb bt ct m d vp vi) []:=⟨⟨d,rfl⟩,⟨d,h.box⟩,h.tab,h.pk,h.ids,r⟩;refine (bC2 base (spM F mb bt ct m d vp vi) d m.L o _ _ _ _ _ _ (alM m) (MkS F base mb bt ct pb m vp vi) w h.book k v p c o7 (fI2 a) bP2 (vY1 a) u).mono ?_;rintro e w' ⟨s,b,i,v',B,y,rfl,x,f,g,z,_,_⟩;have n:bN0 m o=(s,b):=y;rw [n];obtain ⟨C,t⟩:=g.spot;subst t;exact ⟨i,v',rfl,x,⟨f.box,g.tab,h.tne,f.all,g.pk,g.ids,f.lim,f.far,h.farp,h.fari⟩,z⟩
section
variable {P:Program} {ops:Array Oper} {Q:Exit->Act->World->Prop} {md:Region.Mode} {S:Nat->World->Prop} {L:Nat->Nat->Bool}
def eP0 (P:Program) (md:Region.Mode) (ops:Array Oper) (Q:Exit->Act->World->Prop) (S:Nat->World->Prop) (L:Nat->Nat->Bool):Nat->Array Bool->Act->World->Prop
 | 0,listed,a,w=>Region.ready md ops listed=[]/\Q .normal a w
 | fuel+1,listed,a,w=>(Region.ready md ops listed=[]->Q .normal a w)/\∀i∈Region.ready md ops listed,wpOp P ops Q i (fun a' w'=>(∀n,L n i=false->S n w->S n w')/\eP0 P md ops Q S L fuel (listed.setIfInBounds i true) a' w') a w
theorem mS0:∀(b:Nat) (listed:Array Bool) (a:Act) (w:World),eP0 P md ops Q S L b listed a w->wpAny P md ops Q b listed a w
 | 0,_,_,_,h=>h
 | b+1,_,_,_,h=>⟨h.1,fun i hi=>wpOp_mono (fun c w' d=>mS0 b _ c w' d.2) (h.2 i hi)⟩
theorem qJ0 {i:Nat} {x:Oper} {v:Value} {D:World->Prop} (hi:ops[i]? = some x) (p:∀(j:Nat) (o:Oper) cs b,ops[j]? = some o->o.op≠.select cs b) (T:∀c a w,Q (.panic c) (a.put x.dst v) w->Q (.panic c) a w)
  (R:∀(d:Array Bool) (j:Nat) (w w':World),Down md ops d->d.getD i true=false->j∈Region.ready md ops d->(∀n,L n j=false->S n w->S n w')->D w->D w'):
  ∀(f:Nat) (d:Array Bool) (a:Act) (w:World),
   (∀j t,ops[j]? = some t->j≠i->d.getD j true=false->(∀e∈t.after,Region.binds md e=true->e.on≠i)->x.apart ops t=true)->Down md ops d->
   i∈Region.ready md ops d->YieldsIf P ops D x v a->D w->eP0 P md ops Q S L f (d.setIfInBounds i true) (a.put x.dst v) w->eP0 P md ops Q S L (f+1) d a w:=by
 intro f
 induction f with
 | zero=>
  intro d a w _ _ r F E H;refine ⟨fun h=>(by rw [h] at r;cases r),fun j u=>?_⟩
  by_cases g:j=i
  ·subst g;exact F.wpOp hi E ⟨fun _ _ h=>h,H⟩
  ·have:=ready_mono u g;rw [H.1] at this;cases this
 | succ f ih=>
  intro d a w l M r F E H;refine ⟨fun h=>(by rw [h] at r;cases r),fun j u=>?_⟩
  by_cases g:j=i
  ·subst g;exact F.wpOp hi E ⟨fun _ _ h=>h,H⟩
  obtain ⟨m,t,q,y⟩:=mem_ready.1 u;have s:d.getD i true=false:=(mem_ready.1 r).1
  have B:∀e∈t.after,Region.binds md e=true->e.on≠i:=fun e V U I=>by
   have h1:=y e V U;rw [I] at h1;rcases eE i d.size with G | G
   ·simp [G] at s h1;rw [s] at h1;cases h1
   ·simp [Array.getElem?_eq_none G] at h1
  have O:=wpOp_putIf q (l j t q g m B) (fun cs b=>p i x cs b hi) (fun cs b=>p j t cs b q) T F (H.2 j (ready_mono u g))
  refine wpOp_mono (fun N w' C=>⟨C.2.1,ih (d.setIfInBounds j true) N w' (fun k W hk J A K=>l k W hk J (by
   by_cases z:j=k
   ·subst z;exact m
   ·rw [getD_set_ne true z] at A;exact A) K) (M.more u) (ready_mono r (Ne.symm g)) C.1 (R d j w w' M s u C.2.1 E) ?_⟩) O
  rw [Array.setIfInBounds_comm _ _ g];exact C.2.2
theorem uA0 (n:Nat) {i:Nat} {f:Oper} {v:Value} {d:Nat} {b:Array Bool} {a:Act} {w:World} (hi:ops[i]? = some f) (x:Region.noSelect ops=true) (r:Region.free md ops b i=true) (u:(Region.ready md ops b).contains i=true) (t:xE0 md ops (L n) i=true) (q:sU0 md ops b=true)
  (o:∀c a w,Q (.panic c) (a.put f.dst v) w->Q (.panic c) a w) (y:Region.wanted f (yielded ops a.tmps)=true) (z:∀w,S n w->(execOp a.eval f).run P w=.ok (.value v) w) (p:S n w)
  (h:eP0 P md ops Q S L d (b.setIfInBounds i true) (a.put f.dst v) w):eP0 P md ops Q S L (d+1) b a w:=
 qJ0 (D:=S n) hi (Region.noSelect_spec x) o (fun e j w w' l m s hk k=>hk n (gH1 t l (by
   rcases eE i e.size with g | g
   ·simpa [g] using m
   ·simp [Array.getElem?_eq_none g]) s) k) d b a w (Region.free_spec hi r) (sV0 q) (by simpa using u) (aH ⟨y,z⟩) p h
theorem tkM9 {P:Program} {ops:Array Oper} {Q:Exit->Act->World->Prop} {md:Region.Mode} {S:Nat->World->Prop} {L:Nat->Nat->Bool} (n i:Nat) {oi:Oper} {v:Value} {d:Nat} {b:Array Bool} {a:Act} {w:World} (g:S n w) (h:eP0 P md ops Q S L d (b.setIfInBounds i true) (a.put oi.dst v) w) (hi:ops[i]? = some oi:=by exact rfl) (k:∀w,S n w->(execOp a.eval oi).run P w=.ok (.value v) w:=by (intro w e;(try simp only [lateS_zero] at e);(try dsimp only at e);go_simp;try rfl)) (hk:(Region.noSelect ops&& Region.free md ops b i&& (Region.ready md ops b).contains i&& xE0 md ops (L n) i&& sU0 md ops b)=true:=by kernel_rfl) (f:∀c a w,Q (.panic c) (a.put oi.dst v) w->Q (.panic c) a w:=by exact fun _ _ _ h=>h) (j:Region.wanted oi (yielded ops a.tmps)=true:=by rfl):eP0 P md ops Q S L (d+1) b a w:=by
 simp only [bE] at hk;exact uA0 n hi hk.1.1.1.1 hk.1.1.1.2 hk.1.1.2 hk.1.2 hk.2 f j k g h
theorem tkM7 (n:Nat) {i:Nat} {e:Oper} {v:Value} {d:Nat} {b:Array Bool} {a:Act} {w:World} (hi:ops[i]? = some e) (hk:(Region.noSelect ops&& Region.free md ops b i&& (Region.ready md ops b).contains i&& xE0 md ops (L n) i&& sU0 md ops b)=true)
  (f:∀c a w,Q (.panic c) (a.put e.dst v) w->Q (.panic c) a w) (j:Region.wanted e (yielded ops a.tmps)=true) (k:∀w,S n w->(execOp a.eval e).run P w=.ok (.value v) w) (g:S n w)
  (h:eP0 P md ops Q S L d (b.setIfInBounds i true) (a.put e.dst v) w):eP0 P md ops Q S L (d+1) b a w:=by
 simp only [bE] at hk;exact uA0 n hi hk.1.1.1.1 hk.1.1.1.2 hk.1.1.2 hk.1.2 hk.2 f j k g h
theorem uB0 {i:Nat} {e:Oper} {v:Value} {d:Nat} {b:Array Bool} {a:Act} {w:World} (hi:ops[i]? = some e) (l:Region.noSelect ops=true) (j:Region.free md ops b i=true) (k:(Region.ready md ops b).contains i=true) (g:sU0 md ops b=true)
  (f:∀c a w,Q (.panic c) (a.put e.dst v) w->Q (.panic c) a w) (m:Region.wanted e (yielded ops a.tmps)=true) (n:∀w,(execOp a.eval e).run P w=.ok (.value v) w)
  (h:eP0 P md ops Q S L d (b.setIfInBounds i true) (a.put e.dst v) w):eP0 P md ops Q S L (d+1) b a w:=
 qJ0 (D:=fun _=>True) hi (Region.noSelect_spec l) f (fun _ _ _ _ _ _ _ _ _=>trivial) d b a w (Region.free_spec hi j) (sV0 g) (by simpa using k) (aH ⟨m,fun w _=>n w⟩) trivial h
theorem puM9 {P:Program} {ops:Array Oper} {Q:Exit->Act->World->Prop} {md:Region.Mode} {S:Nat->World->Prop} {L:Nat->Nat->Bool} (i:Nat) {oi:Oper} {v:Value} {d:Nat} {b:Array Bool} {a:Act} {w:World} (h:eP0 P md ops Q S L d (b.setIfInBounds i true) (a.put oi.dst v) w) (hi:ops[i]? = some oi:=by exact rfl) (g:∀w,(execOp a.eval oi).run P w=.ok (.value v) w:=by (intro w;go_simp;try rfl)) (hk:(Region.noSelect ops&& Region.free md ops b i&& (Region.ready md ops b).contains i&& sU0 md ops b)=true:=by kernel_rfl) (e:∀c a w,Q (.panic c) (a.put oi.dst v) w->Q (.panic c) a w:=by exact fun _ _ _ h=>h) (f:Region.wanted oi (yielded ops a.tmps)=true:=by rfl):eP0 P md ops Q S L (d+1) b a w:=by
 simp only [bE] at hk;exact uB0 hi hk.1.1.1 hk.1.1.2 hk.1.2 hk.2 e f g h
theorem puM7 {i:Nat} {e:Oper} {v:Value} {d:Nat} {b:Array Bool} {a:Act} {w:World} (hi:ops[i]? = some e) (hk:(Region.noSelect ops&& Region.free md ops b i&& (Region.ready md ops b).contains i&& sU0 md ops b)=true)
  (f:∀c a w,Q (.panic c) (a.put e.dst v) w->Q (.panic c) a w) (g:Region.wanted e (yielded ops a.tmps)=true) (j:∀w,(execOp a.eval e).run P w=.ok (.value v) w)
  (h:eP0 P md ops Q S L d (b.setIfInBounds i true) (a.put e.dst v) w):eP0 P md ops Q S L (d+1) b a w:=by
 simp only [bE] at hk;exact uB0 hi hk.1.1.1 hk.1.1.2 hk.1.2 hk.2 f g j h
theorem aT0 {i:Nat} {o:Oper} {c:Nat} {b:Array Bool} {a:Act} {w:World} (f:Region.ready md ops b=[i]) (m:ops[i]? = some o)
  (h:∀d:Act->World->Prop,Shut (∀a w',(∀n,L n i=false->S n w->S n w')->eP0 P md ops Q S L c (b.setIfInBounds i true) a w'->d a w')->if Region.wanted o (yielded ops a.tmps)=true then Oper.wp P o a w d Q else d (a.put o.dst undef) w):eP0 P md ops Q S L (c+1) b a w:=
 ⟨fun h0=>(by rw [f] at h0;cases h0),fun j e=>by
  rw [f] at e;rcases List.mem_cons.1 e with rfl | e
  ·exact wpOp_step m (fun d g=>h d (fun a w' k l=>g a w' ⟨k,l⟩))
  ·cases e⟩
theorem bI0 {b:Array Bool} {a:Act} {w:World} (c:Region.ready md ops b=[]) (h:Q .normal a w):∀fuel,eP0 P md ops Q S L fuel b a w
 | 0=>⟨c,h⟩
 | _+1=>⟨fun _=>h,by rw [c];simp⟩
theorem bB0 {id:Nat} {a:Act} {w:World} (S:Nat->World->Prop) (L:Nat->Nat->Bool) (c:P.follows .mixedOrders=true) (b:∀n,S n w.drew) (h:(∀n,S n w.drew)->eP0 P .any ops Q S L ops.size (Array.replicate ops.size false) a w.drew):(Code.region id ops true).wp P Q a w:=
 wp_region_any c (mS0 _ _ _ _ (h b))
end
def dF0 (c:UInt8):List UInt8->List (List UInt8)
 | []=>[[]]
 | x::s=>if x == c then []::dF0 c s else match dF0 c s with
  | []=>[[x]]
  | y::ys=>(x::y)::ys
theorem fN0 (c x:UInt8) (s:List UInt8):dF0 c (x::s)=if x == c then []::dF0 c s else match dF0 c s with | []=>[[x]] | y::ys=>(x::y)::ys:=rfl
theorem uC0 (c:UInt8):∀s:List UInt8,dF0 c s≠[]
 | []=>by simp [dF0]
 | x::s=>by
  rw [fN0];split
  ·simp
  ·split <;> simp
theorem mC0:∀s:List UInt8,dF0 10 s=bH0 s
 | []=>rfl
 | x::s=>by
  rw [fN0,mC0 s];rfl
theorem uD0 {c:UInt8}:∀s:List UInt8,(∀k:Nat,s[k]?≠some c)->dF0 c s=[s]
 | [],_=>rfl
 | x::s,h=>by
  have h0:¬(x == c)=true:=fun e=>h 0 (by simp [beq_iff_eq.1 e])
  rw [fN0,aA h0,uD0 s (fun k=>by have:=h (k+1);simpa using this)]
theorem bR1 {c:UInt8}:∀(i:Nat) (s:List UInt8),s[i]? = some c->(∀k:Nat,k<i->s[k]?≠some c)->dF0 c s=s.take i::dF0 c (s.drop (i+1))
 | i,[],h,_=>by simp at h
 | 0,x::s,h,_=>by
  have h0:(x == c)=true:=beq_iff_eq.2 (by simpa using h);rw [fN0,aB h0];rfl
 | i+1,x::s,h,hk=>by
  have h0:¬(x == c)=true:=fun e=>hk 0 o7 (by simp [beq_iff_eq.1 e])
  rw [fN0,aA h0,bR1 i s (by simpa using h) (fun k a=>by have:=hk (k+1) o7;simpa using this)];rfl
theorem pZ1 (c:UInt8):∀(n:Nat) (s:List UInt8),s.length<=n->Lib.splitK [c] 0 (Lib.count s [c]) s=dF0 c s:=by
 intro n
 induction n with
 | zero=>
  intro s h;obtain rfl:s=[]:=dU.1 o7;rfl
 | succ n ih=>
  intro s h
  by_cases a:Lib.index s [c]=-1
  ·rw [Lib.count_miss a];rw [Lib.index_one] at a;rw [uD0 s (Lib.indexByte_none a)];rfl
  ·obtain ⟨i,hi⟩:∃i:Nat,Lib.index s [c]=i:=⟨(Lib.index s [c]).toNat,by
    have:=Lib.indexByte_ge s c;rw [<-Lib.index_one] at this;omega⟩
   rw [Lib.count_hit s7 hi,Nat.add_comm];have b:¬(Lib.index s [c] == -1)=true:=fun e=>a (beq_iff_eq.1 e)
   have d:(Lib.index s [c]).toNat=i:=o7;unfold Lib.splitK;rw [aA b,d,dV];rw [Lib.index_one] at hi;obtain ⟨h1,f⟩:=Lib.indexByte_some hi;have g:i<s.length:=(List.getElem?_eq_some_iff.1 h1).1;rw [bR1 i s h1 f];have:=ih (s.drop (i+1)) (by rw [dC];omega);exact congrArg _ this
theorem qA1 (s:ByteArray):baOf s.data.toList=s:=by cases s;simp [baOf]
theorem lL0 (l:List UInt8):(baOf l).data.toList=l:=by simp [baOf]
theorem bS1 (c:UInt8) (s:ByteArray):Lib.splitB ⟨#[c]⟩ 0 (Lib.countB s ⟨#[c]⟩) s=(dF0 c s.data.toList).map baOf:=by
 have h:=Lib.splitB_data ⟨#[c]⟩ 0 (Lib.countB s ⟨#[c]⟩) s;have a:=pZ1 c s.data.toList.length s.data.toList lR7;have b:=h.trans a;rw [<-b,dS]
 conv=>lhs;rw [<-List.map_id (Lib.splitB ⟨#[c]⟩ 0 (Lib.countB s ⟨#[c]⟩) s)]
 exact cJ (fun x _=>(qA1 x).symm)
theorem pT0 (c:UInt8) (s:ByteArray):(dF0 c s.data.toList).length=Lib.countB s ⟨#[c]⟩+1:=by
 have h:=Lib.splitB_all ⟨#[c]⟩ (Nat.le_refl 1) 0 _ s rfl;rw [bS1,bU] at h;exact h
def wrdG:List UInt8->List UInt8->List (List UInt8)
 | cur,[]=>if cur=[] then [] else [cur]
 | cur,b::l=>if b == 32 then (if cur=[] then wrdG [] l else cur::wrdG [] l) else wrdG (cur++[b]) l
theorem bT1:∀(k:Nat) (cur l:List UInt8),k<=l.length->(∀j,j<k->l.getD j 0≠32)->wrdG cur l=wrdG (cur++l.take k) (l.drop k)
 | 0,cur,l,_,_=>by simp
 | k+1,cur,[],h,_=>by simp at h
 | k+1,cur,b::t,h,hz=>by
  have h0:¬(b == 32)=true:=fun e=>hz 0 o7 (by simpa using beq_iff_eq.1 e)
  have e:wrdG cur (b::t)=wrdG (cur++[b]) t:=by
   show (if b == 32 then _ else _)=_;rw [aA h0]
  rw [e,bT1 k (cur++[b]) t (by simp at h;omega) (fun j a=>by have:=hz (j+1) o7;simpa using this)];simp
def gJ0 (l:List (List UInt8)):List (List UInt8):=l.filter (fun x=>decide (x≠[]))
theorem eT1:∀(l a:List UInt8),wrdG a l=gJ0 (match dF0 32 l with | []=>[a] | y::ys=>(a++y)::ys)
 | [],a=>by
  show (if a=[] then [] else [a])=gJ0 [a++[]];rw [dK]
  by_cases h:a=[]
  ·simp [h,gJ0]
  ·simp [h,gJ0]
 | b::l,a=>by
  show (if b == 32 then (if a=[] then wrdG [] l else a::wrdG [] l) else wrdG (a++[b]) l)=_;rw [fN0];have f:=uC0 32 l;have d:=eT1 l [];have e:=eT1 l (a++[b]);cases hs:dF0 32 l with
  | nil=>exact absurd hs f
  | cons y ys=>
   rw [hs] at d e
   by_cases h:(b == 32)=true
   ·rw [aB h,aB h,d]
    by_cases c:a=[]
    ·simp [c,gJ0]
    ·simp [c,gJ0]
   ·rw [aA h,aA h,e];simp
theorem hJ1 (n a b d f:Nat):((Lib.decodeN n a b d f).1=32↔a=32)/\(a=32->(Lib.decodeN n a b d f).2=1):=by
 rcases Lib.decodeN_cases n a b d f with ⟨c,e⟩ | ⟨g,i,j,k,e⟩ | ⟨g,i,j,l,k,e⟩ | ⟨c,e⟩ | e
 ·rw [e];exact ⟨Iff.rfl,fun _=>rfl⟩
 ·rw [e];dsimp only;exact ⟨⟨fun h=>by omega,fun h=>by omega⟩,fun h=>by omega⟩
 ·rw [e];dsimp only;exact ⟨⟨fun h=>by omega,fun h=>by omega⟩,fun h=>by omega⟩
 ·refine ⟨⟨fun h=>by omega,fun h=>?_⟩,fun h=>?_⟩
  ·subst h;simp [Lib.decodeN] at c
  ·subst h;simp [Lib.decodeN] at e
 ·refine ⟨⟨fun h=>?_,fun h=>?_⟩,fun _=>by rw [e]⟩
  ·rw [e] at h;simp at h
  ·subst h;simp [Lib.decodeN] at e
theorem iD2 {b:UInt8} (h:b.toNat=32):b=32:=UInt8.toNat_inj.1 (by rw [h];rfl)
theorem pU0 (l:List UInt8) (p k:Nat):(l.drop p).getD k 0=l.getD (p+k) 0:=by simp [List.getD,List.getElem?_drop]
theorem kL1 (s:ByteArray) (a:Nat) (h:((Utf8.decode s a).1 == 32)=false):∀j,j<(Utf8.decode s a).2->(s.data.toList.drop a).getD j 0≠32:=by
 intro j c e;rw [pU0] at e;rw [Lib.decode_N] at h c;obtain ⟨d,f,g,l⟩:=Lib.decodeN_conts (s.data.toList.length - a) (s.data.toList.getD a 0).toNat (s.data.toList.getD (a+1) 0).toNat (s.data.toList.getD (a+2) 0).toNat (s.data.toList.getD (a+3) 0).toNat;have k:=(hJ1 (s.data.toList.length - a) (s.data.toList.getD a 0).toNat (s.data.toList.getD (a+1) 0).toNat (s.data.toList.getD (a+2) 0).toNat (s.data.toList.getD (a+3) 0).toNat).1;have i:=aC.1 h;have b:(32:UInt8).toNat=32:=rfl
 match j,c,e with
 | 0,_,e=>
  rw [dV] at e;exact i (k.2 (by rw [e];rfl))
 | 1,c,e=>
  have:=(d o7).1;rw [e,b] at this;omega
 | 2,c,e=>
  have:=(f o7).1;rw [e,b] at this;omega
 | 3,c,e=>
  have:=(g o7).1;rw [e,b] at this;omega
 | j+4,c,_=>omega
theorem kM1 (s:ByteArray) (a:Nat) (h:((Utf8.decode s a).1 == 32)=true):(s.data.toList.drop a).getD 0 0=32/\(Utf8.decode s a).2=1:=by
 rw [pU0,dV];rw [Lib.decode_N] at h ⊢;have b:=hJ1 (s.data.toList.length - a) (s.data.toList.getD a 0).toNat (s.data.toList.getD (a+1) 0).toNat (s.data.toList.getD (a+2) 0).toNat (s.data.toList.getD (a+3) 0).toNat;have h0:=b.1.1 (beq_iff_eq.1 h);exact ⟨iD2 h0,b.2 h0⟩
theorem qB1 (s:ByteArray) (a b:Nat):s.extract a b=baOf (Lib.pieceU s.data.toList a b):=by
 rw [<-qA1 (s.extract a b)]
 congr 1
 unfold Lib.pieceU;rw [Lib.extract_data]
theorem eU1 (s:ByteArray):∀(f c:Nat) (st:Option Nat) (acc:List (Nat×Nat)),s.size<=c+f->c<=s.size->(∀a,st=some a->a<c)->
  acc.map (fun p=>Lib.pieceU s.data.toList p.1 p.2)++wrdG (Lib.openPiece s.data.toList st c) (s.data.toList.drop c)=(Lib.closeSpans s (Lib.spansFromP (fun r=>r == 32) s f c st acc)).map (fun p=>Lib.pieceU s.data.toList p.1 p.2):=by
 have j:∀(st:Option Nat) (acc:List (Nat×Nat)),(∀a,st=some a->a<s.size)->acc.map (fun p=>Lib.pieceU s.data.toList p.1 p.2)++wrdG (Lib.openPiece s.data.toList st s.size) (s.data.toList.drop s.size)=(Lib.closeSpans s (acc,st)).map (fun p=>Lib.pieceU s.data.toList p.1 p.2):=by
  intro st acc d;have o:s.data.toList.drop s.size=[]:=cI (by rw [<-Lib.size_eq];exact lR7);rw [o];cases st with
  | none=>simp [Lib.closeSpans,Lib.openPiece,wrdG]
  | some a=>
   have:=Lib.pieceU_ne s.data.toList a s.size (d a rfl) (by rw [<-Lib.size_eq];exact lR7);simp [Lib.closeSpans,Lib.openPiece,wrdG,this]
 intro f
 induction f with
 | zero=>
  intro c st acc h x d;obtain rfl:c=s.size:=o7;exact j st acc d
 | succ f ih=>
  intro c st acc h x d
  by_cases k:c<s.size
  ·have u:c<s.data.toList.length:=by rw [<-Lib.size_eq];exact k
   have y:=Lib.width_pos s c
   have g:c+(Utf8.decode s c).2<=s.size:=by
    have:=Lib.decodeN_le_n' (s.size - c) (s.get! c).toNat (s.get! (c+1)).toNat (s.get! (c+2)).toNat (s.get! (c+3)).toNat o7;rw [<-Lib.decode_at] at this;omega
   have v:Lib.spansFromP (fun r=>r == 32) s (f+1) c st acc=if ((Utf8.decode s c).1 == 32)=true then Lib.spansFromP (fun r=>r == 32) s f (c+(Utf8.decode s c).2) none (acc++(st.toList.map fun a=>(a,c))) else Lib.spansFromP (fun r=>r == 32) s f (c+(Utf8.decode s c).2) (some (st.getD c)) acc:=by
    conv=>lhs;unfold Lib.spansFromP
    rw [aB k];cases st <;> simp
   rw [v];cases hsp:((Utf8.decode s c).1 == 32) with
   | true=>
    rw [aB rfl];obtain ⟨n,i⟩:=kM1 s c hsp
    have o:s.data.toList.drop c=32::s.data.toList.drop (c+1):=by
     rw [List.drop_eq_getElem_cons u]
     congr 1
     rw [pU0,dV] at n;have w:s.data.toList[c]? = some s.data.toList[c]:=List.getElem?_eq_getElem u;rw [List.getD,w] at n;exact n
    have t:∀e,wrdG e (s.data.toList.drop c)=if e=[] then wrdG [] (s.data.toList.drop (c+1)) else e::wrdG [] (s.data.toList.drop (c+1)):=fun e=>by rw [o];rfl
    cases st with
    | none=>
     have:=ih (c+(Utf8.decode s c).2) none acc o7 g (fun a h=>by cases h);rw [i] at this ⊢;simp only [Option.toList_none,fJ,dK];rw [<-this,t,aB r7];rfl
    | some a=>
     have q:=Lib.pieceU_ne s.data.toList a c (d a rfl) o7;have:=ih (c+(Utf8.decode s c).2) none (acc++[(a,c)]) o7 g (fun a h=>by cases h);rw [i] at this ⊢;simp only [Option.toList_some,bW,fJ];rw [<-this,t,aA (by exact q)];simp [Lib.openPiece]
   | false=>
    rw [aA s7];have m:=fun e=>bT1 (Utf8.decode s c).2 e (s.data.toList.drop c) (by rw [dC,<-Lib.size_eq];omega) (kL1 s c hsp)
    have l:(s.data.toList.drop c).drop (Utf8.decode s c).2=s.data.toList.drop (c+(Utf8.decode s c).2):=by rw [List.drop_drop]
    cases st with
    | none=>
     have:=ih (c+(Utf8.decode s c).2) (some c) acc o7 g (fun a h=>by cases h;omega);rw [Option.getD_none,<-this,m,l]
     congr 2
     show []++_=Lib.pieceU _ _ _;unfold Lib.pieceU;rw [Nat.add_sub_cancel_left,bX]
    | some a=>
     have:=ih (c+(Utf8.decode s c).2) (some a) acc o7 g (fun b h=>by cases h;have:=d a rfl;omega);rw [Option.getD_some,<-this,m,l]
     congr 2
     exact Lib.pieceU_grow _ _ _ _ (Nat.le_of_lt (d a rfl))
  ·obtain rfl:c=s.size:=o7;rw [Lib.spansFromP_end _ _ _ _ _ _ k];exact j st acc d
theorem vZ1 (s:ByteArray):fR0 s=(gJ0 (dF0 32 s.data.toList)).map baOf:=by
 have h:=eU1 s s.size 0 none [] o7 (aO _) (fun a h=>by cases h);have b:=eT1 s.data.toList []
 have c:(match dF0 32 s.data.toList with | []=>[[]] | y::ys=>([]++y)::ys)=dF0 32 s.data.toList:=by
  cases e:dF0 32 s.data.toList with
  | nil=>exact absurd e (uC0 _ _)
  | cons y ys=>rfl
 rw [c] at b
 have d:gJ0 (dF0 32 s.data.toList)=(Lib.spansOfP (fun r=>r == 32) s).map (fun p=>Lib.pieceU s.data.toList p.1 p.2):=by
  rw [<-b];exact h
 rw [d,dS];unfold fR0 Lib.goFieldsP;exact cJ (fun x _=>qB1 s x.1 x.2)
theorem fK2 (F:Nat->Prop) (base mb c d:Nat) (m:Mkt) (k l s:Value) (w:World) (h:MkIs w F base mb c d m k l s) (O:m.L.length<=100) (Q:m.P.length<=100) (C:base<=w.heap.size) (K:0<m.rs.length/\m.rs.length<=60)
  (R:0<=m.now/\m.now<=1000000000000) (S:0<=m.ti/\m.ti<=1000000000000):
  Calls prog 57 #[E (some ⟨mb,0,none⟩)] w fun e w'=>e=Y (U G (kD0 m))/\∃vb' vp',MkIs w' F base mb c d (eA0 m) vb' vp' s/\Out (fun j=>j=mb) w w':=by
 have q:w.cell? ⟨mb,10,none⟩=some (U G m.ph):=aA0 (j:=10) h.box rfl;have M:w.cell? ⟨mb,0,none⟩=some (J (some ⟨c,0,none⟩) m.rs.length d):=aA0 (j:=0) h.box rfl;have v:w.cell? ⟨mb,11,none⟩=some (U G m.now):=aA0 (j:=11) h.box rfl;have H:=hid7 h;clear h
 by_cases f:m.ph=6
 ·have x:=beq_iff_eq.2 f;have T:(m.ph != 6)=false:=by simp [bne,x]
  have i:Hid (kD0 m=0):=by show _=_;unfold kD0;rw [aB f]
  have g:Hid (eA0 m=if (phaseV m.rs m.now).1=3 then volM m else if (phaseV m.rs m.now).1=5 then kC0 m else { m with ph:=(phaseV m.rs m.now).1 }):=by show _=_;unfold eA0;rw [aB f]
  have u:Hid (∀w',Below w.heap.size w w'->w'.cell? ⟨mb,0,none⟩=some (J (some ⟨c,0,none⟩) m.rs.length d)/\w'.cell? ⟨mb,11,none⟩=some (U G m.now)/\Below w.heap.size w w'):=fun w' b=>⟨aA0 (j:=0) (H.out.below b).box rfl,aA0 (j:=11) (H.out.below b).box rfl,b⟩
  clear f;go_enter func57,ntmps57;go_wp2_with fail;clear q M v;go_cut [3] from 3 to 3 (fun u3 wc=>u3=U G (phaseV m.rs m.now).1/\Below w.heap.size w wc)
  case first=>
   go_region_held3 (fun w'=>w'.cell? ⟨mb,0,none⟩=some (J (some ⟨c,0,none⟩) m.rs.length d)/\w'.cell? ⟨mb,11,none⟩=some (U G m.now)/\Below w.heap.size w w')
    ((refine u.out _ ?_;(first | exact n.out | exact aF _ _ | exact (aF _ _).drew | (go_split_ands;assumption))))
    ((go_at_call 101;refine (lI0 c d m.now m.rs w.drew H.out.drew.tab K.1 K.2).mono ?_;rintro e I ⟨rfl,r⟩;have n:Hid (Below w.heap.size w I):=(aF _ _).drew.trans (r.mono s7);clear r))
   all_goals go_wp2_with fail
   all_goals go_meet
   all_goals exact ⟨rfl,n.out⟩
  case rest=>
   obtain ⟨rfl,b⟩:=hcut;have W:=hid7 b;have o:Hid _:=H.out.below b;have B:base<=wc.heap.size:=aI C b.size;have t:Hid (Out (fun j=>j=mb) w wc):=aL b lR7;clear b;generalize (phaseV m.rs m.now).1=p at g ⊢
   by_cases z:p=3
   ·subst z;have a:Hid (eA0 m=volM m):=by show _=_;rw [g.out];rfl
    clear g;go_wp2_with fail;refine (vR0 F base mb c d m k l s wc o.out R S).mono ?_;rintro e I ⟨rfl,y,D⟩;go_wp2_with fail;go_ret;exact ⟨by rw [i.out];rfl,k,l,by rw [a.out];exact y,t.out.trans D (aJ _ _)⟩
   ·have X:=aC.2 z
    by_cases A:p=5
    ·subst A;have a:Hid (eA0 m=kC0 m):=by show _=_;rw [g.out];rfl
     clear g;go_wp2_with fail;refine (hH1 F base mb c d m k l s wc o.out O Q B).mono ?_;rintro e I ⟨rfl,V,y,D⟩;go_wp2_with fail;go_ret;exact ⟨by rw [i.out];rfl,V,_,by rw [a.out];exact y,t.out.trans D (aJ _ _)⟩
    ·have Z:=aC.2 A;have a:Hid (eA0 m={ m with ph:=p }):=by show _=_;rw [g.out,aA z,aA A]
     have q:wc.cell? ⟨mb,10,none⟩=some (U G m.ph):=aA0 (j:=10) o.out.box rfl;have N:=aB0 (j:=10) o.out.box;clear g;go_wp2_with fail;go_ret;exact ⟨by rw [i.out];rfl,k,l,by rw [a.out];exact o.out.write (j:=10) (m':={ m with ph:=p }) rfl rfl rfl rfl rfl,t.out.trans (aM0 _ ⟨mb,10,none⟩ _) (aJ _ _)⟩
 ·have x:=aC.2 f;have T:(m.ph != 6)=true:=by simp [bne,x]
  have i:Hid (kD0 m=6/\eA0 m=m):=⟨by unfold kD0;rw [aA f],by unfold eA0;rw [aA f]⟩;clear f;go_enter func57,ntmps57;go_wp2_with fail;go_ret;exact ⟨by rw [i.out.1];rfl,k,l,by rw [i.out.2];exact H.out,bL _ _⟩
theorem lM0 {w w1:World} (a:Below (w.heap.size+1) (w.alloc (R #[U G 0,U G 0] 88)) w1):
  w1.cell? ⟨w.heap.size,0,none⟩=some (U G 0)/\w1.cell? ⟨w.heap.size,1,none⟩=some (U G 0)/\w1.frozen? ⟨w.heap.size,0,none⟩=false/\w1.frozen? ⟨w.heap.size,1,none⟩=false/\Below w.heap.size w w1:=
 ⟨(a.cell (p:=⟨w.heap.size,0,none⟩) s7).trans (World.cell?_alloc_at _ _ _ _ rfl),(a.cell (p:=⟨w.heap.size,1,none⟩) s7).trans (World.cell?_alloc_at _ _ _ _ rfl),
  (a.frozen (p:=⟨w.heap.size,0,none⟩) s7).trans s7,(a.frozen (p:=⟨w.heap.size,1,none⟩) s7).trans s7,((aF _ _).alloc lR7 _).trans (a.mono o7)⟩
theorem mD0 {w:World} {B:Nat} {u v:Value} (c:w.cell? ⟨B,0,none⟩=some u) (d:w.cell? ⟨B,1,none⟩=some v) (x y:Value):
  (w.setCell ⟨B,0,none⟩ x).cell? ⟨B,0,none⟩=some x/\((w.setCell ⟨B,0,none⟩ x).setCell ⟨B,1,none⟩ y).cell? ⟨B,1,none⟩=some y:=
 ⟨World.cell?_setCell_same' _ _ _ (by rw [c];rfl),World.cell?_setCell_same' _ _ _ (Option.isSome_iff_exists.2 ⟨v,(World.cell?_setCell_other (w:=w) (a:=⟨B,0,none⟩) (b:=⟨B,1,none⟩) (v:=x) s7).trans d⟩)⟩
theorem rF0 {w:World} {B:Nat} {u v:Value} (e:w.cell? ⟨B,0,none⟩=some u) (f:w.cell? ⟨B,1,none⟩=some v) (x y:Value) (o:Obj):
  (((w.setCell ⟨B,0,none⟩ x).setCell ⟨B,1,none⟩ y).alloc o).cell? ⟨B,0,none⟩=some x/\(((w.setCell ⟨B,0,none⟩ x).setCell ⟨B,1,none⟩ y).alloc o).cell? ⟨B,1,none⟩=some y:=by
 obtain ⟨g,c⟩:=mD0 e f x y;have d:B<((w.setCell ⟨B,0,none⟩ x).setCell ⟨B,1,none⟩ y).heap.size:=qC0 (a:=⟨B,1,none⟩) c;have h0:((w.setCell ⟨B,0,none⟩ x).setCell ⟨B,1,none⟩ y).cell? ⟨B,0,none⟩=some x:=(World.cell?_setCell_other (w:=w.setCell ⟨B,0,none⟩ x) (a:=⟨B,1,none⟩) (b:=⟨B,0,none⟩) (v:=y) s7).trans g;exact ⟨(World.cell?_alloc_lt _ _ ⟨B,0,none⟩ d).trans h0,(World.cell?_alloc_lt _ _ ⟨B,1,none⟩ d).trans c⟩
theorem bU1 {w:World} {B:Nat} {u v:Value} (b:w.cell? ⟨B,0,none⟩=some u) (e:w.cell? ⟨B,1,none⟩=some v) (x y:Value) (o:Obj) (n:Nat):
  ((((w.alloc o).drewN n).setCell ⟨B,0,none⟩ x).cell? ⟨B,0,none⟩=some x/\((((w.alloc o).drewN n).setCell ⟨B,0,none⟩ x).setCell ⟨B,1,none⟩ y).cell? ⟨B,1,none⟩=some y):=by
 have c:B<w.heap.size:=qC0 (a:=⟨B,0,none⟩) b;have d:Below w.heap.size w ((w.alloc o).drewN n):=below_drewN ((aF _ _).alloc lR7 _) n;exact mD0 ((d.cell (p:=⟨B,0,none⟩) c).trans b) ((d.cell (p:=⟨B,1,none⟩) c).trans e) x y
theorem fL2 {x y:Int} (h:x=y):Value.int .i64 x=U G y:=by rw [h]
theorem fM2 {w:World} {a x y:Int} {t:TypeId} (h:x=y):w.alloc (R #[U G a,U G x] t)=w.alloc (R #[U G a,U G y] t):=by rw [h]
theorem uO0 (a:Option Addr) (c:Nat) (w:World):Calls prog 92 #[J a 0 c] w fun e w'=>e=Y (.agg #[U G 8,U G (-1)])/\Below w.heap.size w w':=by
 go_enter func92,ntmps92;go_wp2_with fail;refine (hG0 8 _).mono ?_;rintro e w1 ⟨rfl,d⟩;obtain ⟨g,i,l,m,b⟩:=lM0 (w:=w) (d.mono s7);have f:=hid7 b;clear d b;obtain ⟨j,k⟩:=mD0 g i (U G 8) (U G (-1));go_wp2;refine bodyPost_ret (by simp [results,results92,go_sem,j,k];try rfl) rfl ?_;exact ⟨rfl,(f.out.setCell lR7 _).setCell lR7 _⟩
theorem xX0 (a:Option Addr) (n c:Nat) (w:World) (p:20<n) (o:n<=60):Calls prog 92 #[J a n c] w fun e w'=>e=Y (.agg #[U G 4,U G (-1)])/\Below w.heap.size w w':=by
 go_enter func92,ntmps92;go_wp2_with fail;refine (hG0 4 _).mono ?_;rintro e w1 ⟨rfl,d⟩;obtain ⟨g,i,l,m,b⟩:=lM0 (w:=w) (d.mono s7);have f:=hid7 b;clear d b;obtain ⟨j,k⟩:=mD0 g i (U G 4) (U G (-1));go_wp2;refine bodyPost_ret (by simp [results,results92,go_sem,j,k];try rfl) rfl ?_;exact ⟨rfl,(f.out.setCell lR7 _).setCell lR7 _⟩
def okB (a ph:Int):Bool:=(a == 1&& ph == 2) || (a == 2&& ph == 3) || (a == 3&& (ph == 5 || ph == 7)) || (a == 5&& ph == 7)
theorem qC1 (a b:Int):okB a b=true↔(a=1/\b=2)\/(a=2/\b=3)\/(a=3/\(b=5\/b=7))\/(a=5/\b=7):=by
 unfold okB;simp [or_assoc]
theorem xY0 (a ph:Int):hasB (folL a) ph=okB a ph:=by
 rw [cR,qC1];unfold folL;split
 ·simp [hasB];omega
 split
 ·simp [hasB];omega
 split
 ·simp [hasB];omega
 split
 ·simp [hasB];omega
 ·simp [hasB];omega
theorem fN2 {a b:Int} {x:Bool} (h:x=true↔(a=1/\b=2)\/(a=2/\b=3)\/(a=3/\(b=5\/b=7))\/(a=5/\b=7)):Value.bool x=.bool (okB a b):=by
 rw [cR.2 (h.trans (qC1 a b).symm)]
theorem qD1 {c a d b:Int} (h:okB a b=false):rowE (c,a) (d,b)=1:=by
 unfold rowE jJ0;rw [xY0,h];rfl
theorem bQ2 {c a d b:Int} (h:okB a b=true) (h1:d<=c):rowE (c,a) (d,b)=10:=by
 unfold rowE jJ0;rw [xY0,aB h,aB h1]
theorem bR2 {d a b c:Int} (h:okB a c=true) (h1:d<b) (e:1000000<b):rowE (d,a) (b,c)=2:=by
 unfold rowE jJ0;rw [xY0,aB h,aA (by simp;omega),aB (by simpa using e)]
theorem wA1 {d a b c:Int} (h:okB a c=true) (h1:d<b) (e:b<=1000000):rowE (d,a) (b,c)=0:=by
 unfold rowE jJ0;rw [xY0,aB h,aA (by simp;omega),aA (by simp;omega)]
theorem fO2 {a c:Int} (h:(a != c)=true):¬a=c:=by simpa using h
theorem bS2 {a c:Int} (h:(a != c)=false):a=c:=by simpa using h
theorem bT2 {a c x y:Int} (h:a=x) (b:c=y):(a,c)=(x,y):=by rw [h,b]
theorem bV1 (b Z:Nat) (rs:List (Int×Int)) (w:World) (h:cV0 w b 0 rs) (q:0<rs.length) (u:rs.length<=20):
  Calls prog 92 #[J (some ⟨b,0,none⟩) rs.length Z] w fun e w'=>e=Y (.agg #[U G (tabE rs).1,U G (tabE rs).2])/\Below w.heap.size w w':=by
 have HR:Hid (cV0 (w.alloc (R #[U G 0,U G 0] 88)) b 0 rs):=h.below ((aF _ _).alloc lR7 _) lR7;clear h;have hz:((rs.length:Int) == 0)=false:=aC.2 o7;have a5:decide (20<(rs.length:Int))=false:=by simp;omega
 go_enter func92,ntmps92;go_wp2_with fail;go_loopg [18] rs.length (fun g i wr=>∃k:Nat,k<=rs.length/\g=rs.length - k/\i=U G k/\Below (w.heap.size+1) (w.alloc (R #[U G 0,U G 0] 88)) wr/\(k=0\/∃m,k=m+1/\gR0 (bZ0 rs m) (m+1) (rs.drop (m+1))=tabE rs))
 case atStart=>exact ⟨0,aO _,rfl,rfl,aF _ _,aH rfl⟩
 case round=>
  obtain ⟨k,hk,rfl,rfl,I,C⟩:=hrel;obtain ⟨x,y,f0,f1,K⟩:=lM0 I;have S:=hid7 I;have f:=hid7 K;have D:=HR.out.below (n:=w.heap.size+1) I s7;have P:w.heap.size<wr.heap.size:=by have:=I.size;simp at this;omega
  clear I K;rcases C with rfl | ⟨m,rfl,C⟩
  ·have c:=(D.row q).1;have d:=(D.row q).2;simp only [Nat.zero_mul,dV,bT] at c d;clear D;have s:=fun o=>(rF0 x y (U G 1) (U G 0) o).1
   have t:=fun o=>(rF0 x y (U G 1) (U G 0) o).2
   have X:=hid7 (sS0 q u);have HS:=hid7 (gD1 q u);generalize N:bZ0 rs 0=r at c d X;have V:=hid7 N;clear N;obtain ⟨E,v⟩:=r;dsimp only at c d;go_wp2_with fail
   ·refine bodyPost_ret (by simp [results,results92,go_sem,s,t];try rfl) rfl ?_;have j:=X.out (fun e=>absurd (congrArg Prod.snd e) (fO2 a7));exact ⟨by rw [j],((f.out.setCell lR7 _).setCell lR7 _).alloc (by simp;omega) _⟩
   ·go_roundg (rs.length - 1)
    case measure=>omega
    case rel=>exact ⟨1,q,rfl,rfl,S.out.alloc P _,Or.inr ⟨0,rfl,(HS.out (V.out.trans (bT2 a7 (bS2 a7)))).symm⟩⟩
   ·refine bodyPost_ret (by simp [results,results92,go_sem,s,t];try rfl) rfl ?_;have j:=X.out (fun e=>absurd (congrArg Prod.fst e) a7);exact ⟨by rw [j],((f.out.setCell lR7 _).setCell lR7 _).alloc (by simp;omega) _⟩
  ·have Q:Hid (m+1<rs.length->rowE (bZ0 rs m) (bZ0 rs (m+1))=0->gR0 (bZ0 rs (m+1)) (m+2) (rs.drop (m+2))=tabE rs):=fun B he=>(zR0 B he).symm.trans C
   have F:Hid (m+1<rs.length->¬rowE (bZ0 rs m) (bZ0 rs (m+1))=0->tabE rs=(rowE (bZ0 rs m) (bZ0 rs (m+1)),((m+1:Nat):Int))):=fun B he=>C.symm.trans (zS0 B he)
   have H3:Hid (rs.length<=m+1->tabE rs=(0,-1)):=fun B=>C.symm.trans (gC1 B)
   obtain ⟨c,d⟩:=D.row (k:=m) o7
   by_cases B:rs.length<=m+1
   ·clear c d D C;go_wp2_with fail;refine (hG0 0 _).mono ?_;rintro e w2 ⟨rfl,L⟩;obtain ⟨c0,c1,a2,a3,M⟩:=lM0 (w:=w) (S.out.trans (L.mono o7));obtain ⟨s,t⟩:=mD0 c0 c1 (U G 0) (U G (-1));have T:=hid7 M;clear L M x y f0 f1;go_wp2;refine bodyPost_ret (by simp [results,results92,go_sem,s,t];try rfl) rfl ?_;have j:=H3.out B;exact ⟨by rw [j],(T.out.setCell lR7 _).setCell lR7 _⟩
   have l:m+1<rs.length:=o7;obtain ⟨z,A⟩:=D.row l;have a4:b<wr.heap.size:=qC0 (a:=⟨b,0+m*2,none⟩) c;simp only [bT] at c d z A;clear D C;generalize bZ0 rs m=p at c d Q F;generalize O:bZ0 rs (m+1)=r at z A Q F;have W:=hid7 O;clear O;obtain ⟨t0,a⟩:=p;obtain ⟨E,v⟩:=r;dsimp only at c d z A;go_upto_region 13 with fail;go_cut [6,7] (fun pa ok wc=>pa=U G a/\ok=.bool (okB a v)/\wc=wr.alloc (R #[U G E,U G v] 86))
   case first=>
    go_wp2_with fail
    all_goals go_meet
    all_goals exact ⟨fL2 o7,fN2 (by first | (simp;omega) | (constructor <;> intro <;> simp_all <;> omega)),fM2 o7⟩
   case rest=>
    obtain ⟨rfl,rfl,rfl⟩:=hcut;cases hok:okB a v with
    | false=>
     have s:=fun o=>(rF0 x y (U G 1) (U G ((m:Int)+1)) o).1
     have t:=fun o=>(rF0 x y (U G 1) (U G ((m:Int)+1)) o).2
     go_wp2_with fail;refine bodyPost_ret (by simp [results,results92,go_sem,s,t];try rfl) rfl ?_;have j:=F.out l (by rw [qD1 hok];decide);rw [qD1 hok] at j;exact ⟨by rw [j];rfl,((f.out.setCell lR7 _).setCell lR7 _).alloc (by simp;omega) _⟩
    | true=>
     go_wp2_with fail;go_quiet (fail);go_wp2_with fail
     ·obtain ⟨s,t⟩:=bU1 x y (U G 10) (U G ((m:Int)+1)) (R #[U G E,U G v] 86) nq;refine bodyPost_ret (by simp [results,results92,go_sem,s,t];try rfl) rfl ?_;have H:rowE (t0,a) (E,v)=10:=bQ2 hok a7;have j:=F.out l (by rw [H];decide);rw [H] at j;exact ⟨by rw [j];rfl,((below_drewN (f.out.alloc f.out.size _) _).setCell lR7 _).setCell lR7 _⟩
     ·obtain ⟨s,t⟩:=bU1 x y (U G 2) (U G ((m:Int)+1)) (R #[U G E,U G v] 86) nq;refine bodyPost_ret (by simp [results,results92,go_sem,s,t];try rfl) rfl ?_;have H:rowE (t0,a) (E,v)=2:=bR2 hok a7 a7;have j:=F.out l (by rw [H];decide);rw [H] at j;exact ⟨by rw [j];rfl,((below_drewN (f.out.alloc f.out.size _) _).setCell lR7 _).setCell lR7 _⟩
     ·go_roundg (rs.length - (m+2))
      case measure=>omega
      case rel=>exact ⟨m+2,o7,rfl,by go_num,below_drewN (S.out.alloc P _) _,Or.inr ⟨m+1,rfl,by rw [W.out];exact Q.out l (wA1 hok a7 a7)⟩⟩
theorem wB1 (b a:Nat) (rs:List (Int×Int)) (w:World) (h:cV0 w b 0 rs) (f:0<rs.length) (d:rs.length<=60):
  Calls prog 92 #[J (some ⟨b,0,none⟩) rs.length a] w fun e w'=>e=Y (.agg #[U G (tabE rs).1,U G (tabE rs).2])/\Below w.heap.size w w':=by
 by_cases c:20<rs.length
 ·rw [hC0 c];exact xX0 _ _ a w c d
 ·exact bV1 b a rs w h f o7
def hM1 (w:World) (b cap:Nat) (rs:List (Int×Int)) (st dy p ti mo:Int) (e:Ending) (w':World):Prop:=
 ∃ptr,e=Y (.tuple #[ptr,.agg #[U G (newE rs st dy p ti mo).1,U G (newE rs st dy p ti mo).2]])/\aL0 w w'
  /\((newE rs st dy p ti mo).1=0->∃mb,ptr=E (some ⟨mb,0,none⟩)/\w.heap.size<=mb/\bJ0 w' mb (mkV (J (some ⟨b,0,none⟩) rs.length cap) (newM rs st dy p ti mo) (J none 0 0) (J none 0 0) (J none 0 0)) 103)
theorem bW1 {w w':World} {b a:Nat} {rs:List (Int×Int)} {st dy p ti mo:Int} {x y:Int} (h:newE rs st dy p ti mo=(x,y)) (d:x≠0) (c:aL0 w w'):hM1 w b a rs st dy p ti mo (Y (.tuple #[E none,.agg #[U G x,U G y]])) w':=
 ⟨_,by rw [h],c,fun e=>absurd (by rw [h] at e;exact e) d⟩
theorem xZ0 {rs:List (Int×Int)} (st dy p ti mo:Int) (h:(tabE rs).1≠0):newE rs st dy p ti mo=tabE rs:=by unfold newE;rw [aB h]
theorem wC1 {rs:List (Int×Int)} {st dy p ti mo:Int} (h:(tabE rs).1=0):newE rs st dy p ti mo=if (fA0 p 1&& (decide (0<=st)&& decide (st<=10000))&& (decide (0<=dy)&& decide (dy<=10000))&& (decide (1<=ti)&& decide (ti<=1000000))&& (decide (0<=mo)&& decide (mo<=10)))=true then (0,-1) else (2,-1):=by
 unfold newE;rw [aA (by rw [h];decide)]
 have e:(nV0 st dy p=true/\mP0 ti mo=true)↔(fA0 p 1&& (decide (0<=st)&& decide (st<=10000))&& (decide (0<=dy)&& decide (dy<=10000))&& (decide (1<=ti)&& decide (ti<=1000000))&& (decide (0<=mo)&& decide (mo<=10)))=true:=by
  unfold nV0 cO0 mP0 inB fA0;simp only [bE,decide_eq_true_eq];omega
 by_cases h1:nV0 st dy p=true/\mP0 ti mo=true
 ·rw [aB h1,aB (e.1 h1)]
 ·rw [aA h1,aA (fun x=>h1 (e.2 x))]
theorem iE2 (b n:Nat) (rs:List (Int×Int)) (st dy p ti mo:Int) (w:World) (h:cV0 w b 0 rs) (a0:0<rs.length) (L:rs.length<=60):
  Calls prog 51 #[J (some ⟨b,0,none⟩) rs.length n,U G st,U G dy,U G p,U G ti,U G mo] w fun e w'=>hM1 w b n rs st dy p ti mo e w':=by
 have HR:=hid7 h;clear h;go_enter func51,ntmps51;go_upto_region 1 with fail;have E:=heap_alloc_new w (R #[U G 0,U G 0] 88);have B:=bel1 w (R #[U G 0,U G 0] 88);generalize w.alloc (R #[U G 0,U G 0] 88)=w1 at E B ⊢;have K:=hid7 E;have A:=hid7 B;clear E B;go_wp2_with fail;refine (wB1 b n rs w1 (HR.below A lR7) a0 L).mono ?_;rintro e H ⟨rfl,C⟩;obtain ⟨q,t,ht⟩:∃q t,tabE rs=(q,t):=⟨_,_,rfl⟩;rw [ht];have Y:=hid7 ht;have S:=hid7 (aD0 A C);have Z:Hid (bJ0 H w.heap.size #[U G 0,U G 0] 88):=aE0 K C lR7;clear C ht A K;dsimp only;go_upto_region 2 with fail;have y:=heap_alloc_new H (R #[U G q,U G t] 88);have v:=bel1 H (R #[U G q,U G t] 88);generalize H.alloc (R #[U G q,U G t] 88)=w3 at y v ⊢;have i:Hid (bJ0 w3 w.heap.size #[U G 0,U G 0] 88):=aE0 Z v lR7;have m:=hid7 (aD0 S v);have c0:aC0 w3 H.heap.size 0 (U G q):=aA0 (j:=0) y rfl;have c1:aC0 w3 H.heap.size 1 (U G t):=aA0 (j:=1) y rfl;have g0:aC0 w3 w.heap.size 0 (U G 0):=aA0 (j:=0) i rfl;have g1:aC0 w3 w.heap.size 1 (U G 0):=aA0 (j:=1) i rfl;have f0:=aB0 (j:=0) i;have f1:=aB0 (j:=1) i;clear v y
 by_cases h0:q=0
 ·have n0:(q != 0)=false:=by rw [h0];rfl
  have z:Hid _:=wC1 (rs:=rs) (st:=st) (dy:=dy) (p:=p) (ti:=ti) (mo:=mo) (by rw [Y.out];exact h0);clear h0;go_wp2_with fail;refine (eC1 p 1 w3).mono ?_;rintro e l ⟨rfl,o⟩;rw [o];clear o l;cases r1:fA0 p 1 with
  | false=>
   have k:Hid (newE rs st dy p ti mo=(2,-1)):=by show _=_;rw [z.out,aA (by rw [r1];simp)]
   go_wp2_with fail;refine (hG0 2 w3).mono ?_;rintro e f ⟨rfl,d⟩;have a:=aE0 i d lR7;have g:Hid (aL0 w ((f.setCell ⟨w.heap.size,0,none⟩ (U G 2)).setCell ⟨w.heap.size,1,none⟩ (U G (-1)))):=((aD0 m d).setCell (p:=⟨w.heap.size,0,none⟩) lR7 _).setCell (p:=⟨w.heap.size,1,none⟩) lR7 _;have c:=aJ0 (j:=1) (U G (-1)) (aJ0 (j:=0) (U G 2) a);have N:aC0 f w.heap.size 0 (U G 0):=aA0 (j:=0) a rfl;have O:aC0 f w.heap.size 1 (U G 0):=aA0 (j:=1) a rfl;have P:=aB0 (j:=0) a;have Q:=aB0 (j:=1) a;have r:aC0 ((f.setCell ⟨w.heap.size,0,none⟩ (U G 2)).setCell ⟨w.heap.size,1,none⟩ (U G (-1))) w.heap.size 0 (U G 2):=aA0 (j:=0) c rfl;have s:aC0 ((f.setCell ⟨w.heap.size,0,none⟩ (U G 2)).setCell ⟨w.heap.size,1,none⟩ (U G (-1))) w.heap.size 1 (U G (-1)):=aA0 (j:=1) c rfl;clear d a c;go_wp2_with fail;refine bodyPost_ret (by simp [results,results51,go_sem,r,s];try rfl) rfl ?_;exact bW1 k d7 g
  | true=>
   go_wp2_with fail;refine (bkIn st 0 10000 w3).mono ?_;rintro e l ⟨rfl,o⟩;rw [o];clear o l;cases r2:(decide (0<=st)&& decide (st<=10000)) with
   | false=>
    have k:Hid (newE rs st dy p ti mo=(2,-1)):=by show _=_;rw [z.out,aA (by rw [r1,r2];simp)]
    go_wp2_with fail;refine (hG0 2 w3).mono ?_;rintro e f ⟨rfl,d⟩;have a:=aE0 i d lR7;have g:Hid (aL0 w ((f.setCell ⟨w.heap.size,0,none⟩ (U G 2)).setCell ⟨w.heap.size,1,none⟩ (U G (-1)))):=((aD0 m d).setCell (p:=⟨w.heap.size,0,none⟩) lR7 _).setCell (p:=⟨w.heap.size,1,none⟩) lR7 _;have c:=aJ0 (j:=1) (U G (-1)) (aJ0 (j:=0) (U G 2) a);have N:aC0 f w.heap.size 0 (U G 0):=aA0 (j:=0) a rfl;have O:aC0 f w.heap.size 1 (U G 0):=aA0 (j:=1) a rfl;have P:=aB0 (j:=0) a;have Q:=aB0 (j:=1) a;have r:aC0 ((f.setCell ⟨w.heap.size,0,none⟩ (U G 2)).setCell ⟨w.heap.size,1,none⟩ (U G (-1))) w.heap.size 0 (U G 2):=aA0 (j:=0) c rfl;have s:aC0 ((f.setCell ⟨w.heap.size,0,none⟩ (U G 2)).setCell ⟨w.heap.size,1,none⟩ (U G (-1))) w.heap.size 1 (U G (-1)):=aA0 (j:=1) c rfl;clear d a c;go_wp2_with fail;refine bodyPost_ret (by simp [results,results51,go_sem,r,s];try rfl) rfl ?_;exact bW1 k d7 g
   | true=>
    go_wp2_with fail;refine (bkIn dy 0 10000 w3).mono ?_;rintro e l ⟨rfl,o⟩;rw [o];clear o l;cases r3:(decide (0<=dy)&& decide (dy<=10000)) with
    | false=>
     have k:Hid (newE rs st dy p ti mo=(2,-1)):=by show _=_;rw [z.out,aA (by rw [r1,r2,r3];simp)]
     go_wp2_with fail;refine (hG0 2 w3).mono ?_;rintro e f ⟨rfl,d⟩;have a:=aE0 i d lR7;have g:Hid (aL0 w ((f.setCell ⟨w.heap.size,0,none⟩ (U G 2)).setCell ⟨w.heap.size,1,none⟩ (U G (-1)))):=((aD0 m d).setCell (p:=⟨w.heap.size,0,none⟩) lR7 _).setCell (p:=⟨w.heap.size,1,none⟩) lR7 _;have c:=aJ0 (j:=1) (U G (-1)) (aJ0 (j:=0) (U G 2) a);have N:aC0 f w.heap.size 0 (U G 0):=aA0 (j:=0) a rfl;have O:aC0 f w.heap.size 1 (U G 0):=aA0 (j:=1) a rfl;have P:=aB0 (j:=0) a;have Q:=aB0 (j:=1) a;have r:aC0 ((f.setCell ⟨w.heap.size,0,none⟩ (U G 2)).setCell ⟨w.heap.size,1,none⟩ (U G (-1))) w.heap.size 0 (U G 2):=aA0 (j:=0) c rfl;have s:aC0 ((f.setCell ⟨w.heap.size,0,none⟩ (U G 2)).setCell ⟨w.heap.size,1,none⟩ (U G (-1))) w.heap.size 1 (U G (-1)):=aA0 (j:=1) c rfl;clear d a c;go_wp2_with fail;refine bodyPost_ret (by simp [results,results51,go_sem,r,s];try rfl) rfl ?_;exact bW1 k d7 g
    | true=>
     go_wp2_with fail;refine (bkIn ti 1 1000000 w3).mono ?_;rintro e l ⟨rfl,o⟩;rw [o];clear o l;cases r4:(decide (1<=ti)&& decide (ti<=1000000)) with
     | false=>
      have k:Hid (newE rs st dy p ti mo=(2,-1)):=by show _=_;rw [z.out,aA (by rw [r1,r2,r3,r4];simp)]
      go_wp2_with fail;refine (hG0 2 w3).mono ?_;rintro e f ⟨rfl,d⟩;have a:=aE0 i d lR7;have g:Hid (aL0 w ((f.setCell ⟨w.heap.size,0,none⟩ (U G 2)).setCell ⟨w.heap.size,1,none⟩ (U G (-1)))):=((aD0 m d).setCell (p:=⟨w.heap.size,0,none⟩) lR7 _).setCell (p:=⟨w.heap.size,1,none⟩) lR7 _;have c:=aJ0 (j:=1) (U G (-1)) (aJ0 (j:=0) (U G 2) a);have N:aC0 f w.heap.size 0 (U G 0):=aA0 (j:=0) a rfl;have O:aC0 f w.heap.size 1 (U G 0):=aA0 (j:=1) a rfl;have P:=aB0 (j:=0) a;have Q:=aB0 (j:=1) a;have r:aC0 ((f.setCell ⟨w.heap.size,0,none⟩ (U G 2)).setCell ⟨w.heap.size,1,none⟩ (U G (-1))) w.heap.size 0 (U G 2):=aA0 (j:=0) c rfl;have s:aC0 ((f.setCell ⟨w.heap.size,0,none⟩ (U G 2)).setCell ⟨w.heap.size,1,none⟩ (U G (-1))) w.heap.size 1 (U G (-1)):=aA0 (j:=1) c rfl;clear d a c;go_wp2_with fail;refine bodyPost_ret (by simp [results,results51,go_sem,r,s];try rfl) rfl ?_;exact bW1 k d7 g
     | true=>
      go_wp2_with fail;refine (bkIn mo 0 10 w3).mono ?_;rintro e l ⟨rfl,o⟩;rw [o];clear o l;cases r5:(decide (0<=mo)&& decide (mo<=10)) with
      | false=>
       have k:Hid (newE rs st dy p ti mo=(2,-1)):=by show _=_;rw [z.out,aA (by rw [r1,r2,r3,r4,r5];simp)]
       go_wp2_with fail;refine (hG0 2 w3).mono ?_;rintro e f ⟨rfl,d⟩;have a:=aE0 i d lR7;have g:Hid (aL0 w ((f.setCell ⟨w.heap.size,0,none⟩ (U G 2)).setCell ⟨w.heap.size,1,none⟩ (U G (-1)))):=((aD0 m d).setCell (p:=⟨w.heap.size,0,none⟩) lR7 _).setCell (p:=⟨w.heap.size,1,none⟩) lR7 _;have c:=aJ0 (j:=1) (U G (-1)) (aJ0 (j:=0) (U G 2) a);have N:aC0 f w.heap.size 0 (U G 0):=aA0 (j:=0) a rfl;have O:aC0 f w.heap.size 1 (U G 0):=aA0 (j:=1) a rfl;have P:=aB0 (j:=0) a;have Q:=aB0 (j:=1) a;have r:aC0 ((f.setCell ⟨w.heap.size,0,none⟩ (U G 2)).setCell ⟨w.heap.size,1,none⟩ (U G (-1))) w.heap.size 0 (U G 2):=aA0 (j:=0) c rfl;have s:aC0 ((f.setCell ⟨w.heap.size,0,none⟩ (U G 2)).setCell ⟨w.heap.size,1,none⟩ (U G (-1))) w.heap.size 1 (U G (-1)):=aA0 (j:=1) c rfl;clear d a c;go_wp2_with fail;refine bodyPost_ret (by simp [results,results51,go_sem,r,s];try rfl) rfl ?_;exact bW1 k d7 g
      | true=>
       have k:Hid (newE rs st dy p ti mo=(0,-1)):=by show _=_;rw [z.out,aB (by rw [r1,r2,r3,r4,r5];rfl)]
       go_wp2_with fail;have hm:=heap_alloc_new w3 (R #[J (some ⟨b,0,none⟩) rs.length n,U G st,U G dy,U G p,U G p,U G ti,U G mo,J none 0 0,J none 0 0,J none 0 0,U G 1,U G 0,U G 0,U G 0] 103);have D:=bel1 w3 (R #[J (some ⟨b,0,none⟩) rs.length n,U G st,U G dy,U G p,U G p,U G ti,U G mo,J none 0 0,J none 0 0,J none 0 0,U G 1,U G 0,U G 0,U G 0] 103);generalize w3.alloc (R #[J (some ⟨b,0,none⟩) rs.length n,U G st,U G dy,U G p,U G p,U G ti,U G mo,J none 0 0,J none 0 0,J none 0 0,U G 1,U G 0,U G 0,U G 0] 103)=f at hm D ⊢;have V:Hid _:=hm;have g:=hid7 D;clear hm D;refine (hG0 0 f).mono ?_;rintro e u ⟨rfl,x⟩;have c:=aE0 (aE0 i g lR7) x lR7;have M:=aE0 V x lR7;have N:aC0 u w.heap.size 0 (U G 0):=aA0 (j:=0) c rfl;have O:aC0 u w.heap.size 1 (U G 0):=aA0 (j:=1) c rfl;have P:=aB0 (j:=0) c;have Q:=aB0 (j:=1) c;have F:=aJ0 (j:=1) (U G (-1)) (aJ0 (j:=0) (U G 0) c);have r:aC0 ((u.setCell ⟨w.heap.size,0,none⟩ (U G 0)).setCell ⟨w.heap.size,1,none⟩ (U G (-1))) w.heap.size 0 (U G 0):=aA0 (j:=0) F rfl;have s:aC0 ((u.setCell ⟨w.heap.size,0,none⟩ (U G 0)).setCell ⟨w.heap.size,1,none⟩ (U G (-1))) w.heap.size 1 (U G (-1)):=aA0 (j:=1) F rfl;have T:Hid (aL0 w ((u.setCell ⟨w.heap.size,0,none⟩ (U G 0)).setCell ⟨w.heap.size,1,none⟩ (U G (-1)))):=((aD0 m (aD0 g x)).setCell (p:=⟨w.heap.size,0,none⟩) lR7 _).setCell (p:=⟨w.heap.size,1,none⟩) lR7 _
       have W:Hid (bJ0 ((u.setCell ⟨w.heap.size,0,none⟩ (U G 0)).setCell ⟨w.heap.size,1,none⟩ (U G (-1))) w3.heap.size (mkV (J (some ⟨b,0,none⟩) rs.length n) (newM rs st dy p ti mo) (J none 0 0) (J none 0 0) (J none 0 0)) 103):=by
        have a1:=lt_of_block i;exact aF0 (aF0 M (aM0 u ⟨w.heap.size,0,none⟩ (U G 0)) (fun e=>by have e':w3.heap.size=w.heap.size:=e;omega)) (aM0 _ ⟨w.heap.size,1,none⟩ (U G (-1))) (fun e=>by have e':w3.heap.size=w.heap.size:=e;omega)
       clear x c F M;go_wp2_with fail;refine bodyPost_ret (by simp [results,results51,go_sem,r,s];try rfl) rfl ?_;exact ⟨_,by rw [k.out],T,fun _=>⟨w3.heap.size,rfl,m.size,W⟩⟩
 ·have n0:(q != 0)=true:=by simpa using h0
  have z:Hid (newE rs st dy p ti mo=(q,t)):=by show _=_;rw [xZ0 st dy p ti mo (by rw [Y.out];exact h0),Y.out]
  have X:=hid7 h0;clear h0;go_upto_region 3 with fail;go_region;have c:=aE0 (aJ0 (j:=1) (U G t) (aJ0 (j:=0) (U G q) i)) (aF _ _).drew lR7;have I:Hid (aL0 w ((w3.setCell ⟨w.heap.size,0,none⟩ (U G q)).setCell ⟨w.heap.size,1,none⟩ (U G t)).drew):=((m.setCell (p:=⟨w.heap.size,0,none⟩) lR7 _).setCell (p:=⟨w.heap.size,1,none⟩) lR7 _).drew;generalize ((w3.setCell ⟨w.heap.size,0,none⟩ (U G q)).setCell ⟨w.heap.size,1,none⟩ (U G t)).drew=u at c I ⊢;have r:aC0 u w.heap.size 0 (U G q):=aA0 (j:=0) c rfl;have s:aC0 u w.heap.size 1 (U G t):=aA0 (j:=1) c rfl;clear c0 c1 g0 g1 f0 f1 c;go_wp2_with fail;refine bodyPost_ret (by simp [results,results51,go_sem,r,s];try rfl) rfl ?_;exact bW1 z X I
theorem kN1 (a:Option Addr) (q:Nat) (st dy p ti mo:Int) (w:World):
  Calls prog 51 #[J a 0 q,U G st,U G dy,U G p,U G ti,U G mo] w fun e w'=>hM1 w 0 0 [] st dy p ti mo e w':=by
 go_enter func51,ntmps51;go_upto_region 1 with fail;have k:=heap_alloc_new w (R #[U G 0,U G 0] 88);have g:=bel1 w (R #[U G 0,U G 0] 88);generalize w.alloc (R #[U G 0,U G 0] 88)=w1 at k g ⊢;have o:=hid7 k;have m:=hid7 g;clear k g;go_wp2_with fail;refine (uO0 a q w1).mono ?_;rintro e l ⟨rfl,i⟩;have r:=hid7 (aD0 m i);have t:Hid (bJ0 l w.heap.size #[U G 0,U G 0] 88):=aE0 o i lR7;clear i m o;go_upto_region 2 with fail;have d:=heap_alloc_new l (R #[U G 8,U G (-1)] 88);have c:=bel1 l (R #[U G 8,U G (-1)] 88);generalize l.alloc (R #[U G 8,U G (-1)] 88)=w3 at d c ⊢;have b:Hid (bJ0 w3 w.heap.size #[U G 0,U G 0] 88):=aE0 t c lR7;have s:=hid7 (aD0 r c);have u:aC0 w3 l.heap.size 0 (U G 8):=aA0 (j:=0) d rfl;have v:aC0 w3 l.heap.size 1 (U G (-1)):=aA0 (j:=1) d rfl;have z:aC0 w3 w.heap.size 0 (U G 0):=aA0 (j:=0) b rfl;have A:aC0 w3 w.heap.size 1 (U G 0):=aA0 (j:=1) b rfl;have x:=aB0 (j:=0) b;have y:=aB0 (j:=1) b;clear c d;go_upto_region 3 with fail;go_region;have f:=aE0 (aJ0 (j:=1) (U G (-1)) (aJ0 (j:=0) (U G 8) b)) (aF _ _).drew lR7;have n:Hid (aL0 w ((w3.setCell ⟨w.heap.size,0,none⟩ (U G 8)).setCell ⟨w.heap.size,1,none⟩ (U G (-1))).drew):=((s.setCell (p:=⟨w.heap.size,0,none⟩) lR7 _).setCell (p:=⟨w.heap.size,1,none⟩) lR7 _).drew;generalize ((w3.setCell ⟨w.heap.size,0,none⟩ (U G 8)).setCell ⟨w.heap.size,1,none⟩ (U G (-1))).drew=w5 at f n ⊢;have B:aC0 w5 w.heap.size 0 (U G 8):=aA0 (j:=0) f rfl;have C:aC0 w5 w.heap.size 1 (U G (-1)):=aA0 (j:=1) f rfl;clear u v z A x y f;go_wp2_with fail;refine bodyPost_ret (by simp [results,results51,go_sem,B,C];try rfl) rfl ?_;exact bW1 rfl d7 n
theorem bX1 (a:Option Addr) (n c:Nat) (w:World) (p:20<n) (o:n<=10000):Calls prog 92 #[J a n c] w fun e w'=>e=Y (.agg #[U G 4,U G (-1)])/\Below w.heap.size w w':=by
 go_enter func92,ntmps92;go_wp2_with fail;refine (hG0 4 _).mono ?_;rintro e w1 ⟨rfl,d⟩;obtain ⟨g,i,l,m,b⟩:=lM0 (w:=w) (d.mono s7);have f:=hid7 b;clear d b;obtain ⟨j,k⟩:=mD0 g i (U G 4) (U G (-1));go_wp2;refine bodyPost_ret (by simp [results,results92,go_sem,j,k];try rfl) rfl ?_;exact ⟨rfl,(f.out.setCell lR7 _).setCell lR7 _⟩
theorem kO1 (a:Option Addr) (n r:Nat) (rs:List (Int×Int)) (z:n=rs.length) (h1:20<rs.length) (H:rs.length<=10000) (st dy p ti mo:Int) (w:World):
  Calls prog 51 #[J a n r,U G st,U G dy,U G p,U G ti,U G mo] w fun e w'=>hM1 w 0 0 rs st dy p ti mo e w':=by
 have L:=hid7 z;have y:=hid7 h1;have v:20<n:=o7;have x:n<=10000:=o7;clear z h1 H;go_enter func51,ntmps51;go_upto_region 1 with fail;have k:=heap_alloc_new w (R #[U G 0,U G 0] 88);have g:=bel1 w (R #[U G 0,U G 0] 88);generalize w.alloc (R #[U G 0,U G 0] 88)=w1 at k g ⊢;have q:=hid7 k;have m:=hid7 g;clear k g;go_wp2_with fail;refine (bX1 a n r w1 v x).mono ?_;rintro e l ⟨rfl,i⟩;have s:=hid7 (aD0 m.out i);have u:Hid (l.heap[w.heap.size]? = some (R #[U G 0,U G 0] 88 (0,0))):=aE0 q.out i lR7;clear i m q;go_upto_region 2 with fail;have d:=heap_alloc_new l (R #[U G 4,U G (-1)] 88);have c:=bel1 l (R #[U G 4,U G (-1)] 88);generalize l.alloc (R #[U G 4,U G (-1)] 88)=w3 at d c ⊢;have b:Hid (w3.heap[w.heap.size]? = some (R #[U G 0,U G 0] 88 (0,0))):=aE0 u.out c lR7;have t:=hid7 (aD0 s.out c);have A:w3.cell? ⟨l.heap.size,0,none⟩=some (U G 4):=aA0 (j:=0) d rfl;have B:w3.cell? ⟨l.heap.size,1,none⟩=some (U G (-1)):=aA0 (j:=1) d rfl;have E:w3.cell? ⟨w.heap.size,0,none⟩=some (U G 0):=aA0 (j:=0) b.out rfl;have F:w3.cell? ⟨w.heap.size,1,none⟩=some (U G 0):=aA0 (j:=1) b.out rfl;have C:=aB0 (j:=0) b.out;have D:=aB0 (j:=1) b.out;clear c d;go_upto_region 3 with fail;go_region;have f:=aE0 (aJ0 (j:=1) (U G (-1)) (aJ0 (j:=0) (U G 4) b.out)) (aF _ _).drew lR7;have o:Hid (Below w.heap.size w ((w3.setCell ⟨w.heap.size,0,none⟩ (U G 4)).setCell ⟨w.heap.size,1,none⟩ (U G (-1))).drew):=((t.out.setCell (p:=⟨w.heap.size,0,none⟩) lR7 _).setCell (p:=⟨w.heap.size,1,none⟩) lR7 _).drew;generalize ((w3.setCell ⟨w.heap.size,0,none⟩ (U G 4)).setCell ⟨w.heap.size,1,none⟩ (U G (-1))).drew=w5 at f o ⊢;have I:w5.cell? ⟨w.heap.size,0,none⟩=some (U G 4):=aA0 (j:=0) f rfl;have K:w5.cell? ⟨w.heap.size,1,none⟩=some (U G (-1)):=aA0 (j:=1) f rfl;clear A B E F C D f;go_wp2_with fail;refine bodyPost_ret (by simp [results,results51,go_sem,I,K];try rfl) rfl ?_;exact bW1 (xZ0 st dy p ti mo (by rw [hC0 y.out];decide) |>.trans (hC0 y.out)) d7 o.out
def iF2 (w:World) (a:Option Addr) (cap:Nat) (rs:List (Int×Int)) (st dy p ti mo:Int) (e:Ending) (w':World):Prop:=
 ∃ptr,e=Y (.tuple #[ptr,.agg #[U G (newE rs st dy p ti mo).1,U G (newE rs st dy p ti mo).2]])/\Below w.heap.size w w'
  /\((newE rs st dy p ti mo).1=0->∃mb b,a=some ⟨b,0,none⟩/\ptr=E (some ⟨mb,0,none⟩)/\w.heap.size<=mb/\w'.heap[mb]? = some (R (mkV (J (some ⟨b,0,none⟩) rs.length cap) (newM rs st dy p ti mo) (J none 0 0) (J none 0 0) (J none 0 0)) 103 (0,0)))
theorem bY1 (a:Option Addr) (c:Nat) (rs:List (Int×Int)) (st dy p ti mo:Int) (w:World) (h:0<rs.length->∃b,a=some ⟨b,0,none⟩/\cV0 w b 0 rs) (m:rs.length<=10000):
  Calls prog 51 #[J a rs.length c,U G st,U G dy,U G p,U G ti,U G mo] w fun e w'=>iF2 w a c rs st dy p ti mo e w':=by
 by_cases h0:rs.length=0
 ·have e:=dU.1 h0;subst e;refine (kN1 a c st dy p ti mo w).mono ?_;rintro e w' ⟨d,g,f,_⟩;exact ⟨d,g,f,fun e=>absurd e (by have:(newE [] st dy p ti mo).1=8:=rfl;rw [this];decide)⟩
 ·by_cases h1:20<rs.length
  ·refine (kO1 a rs.length c rs rfl h1 m st dy p ti mo w).mono ?_;rintro e w' ⟨d,g,f,_⟩;refine ⟨d,g,f,fun e=>absurd e ?_⟩;rw [xZ0 st dy p ti mo (by rw [hC0 h1];decide),hC0 h1];decide
  ·obtain ⟨b,rfl,o⟩:=h o7;refine (iE2 b c rs st dy p ti mo w o o7 o7).mono ?_;rintro e w' ⟨d,g,f,n⟩;refine ⟨d,g,f,fun i=>?_⟩;obtain ⟨mb,j,k,l⟩:=n i;exact ⟨mb,b,rfl,j,k,l⟩
theorem own:ownKnob prog.godebug=none:=k7
theorem et:prog.globalNamed "errors.errorType" = some 6:=k7
def fP2:String:=match (Rows.laid_errors_errorType:DataW Unit) with | .iface n _=>n | _=>default
theorem rt:(prog.cutTypes.find? (·.1 == fP2)).map (·.2)=some 289:=k7
theorem oneRow:((List.range 406).filter fun t=>prog.rowNamed t [101,114,114,111,114])=[43]:=k7
theorem size:prog.types.size=406:=k7
def rG0:List (String×DataW Unit):=[("errors.errorType",Rows.laid_errors_errorType)]
theorem bZ1 {W:World} (h:laidMetH prog rG0 W):ErrT W:=by
 have j:laidMet prog [] W/\handlesMet prog rG0 W:=h;obtain ⟨a,u,l,d,e,f,g,b⟩:=j.2 _ (bC.2 rfl);have i:a=[101,114,114,111,114]:=(Option.some.inj d).symm;subst i;obtain rfl:=Option.some.inj (rt.symm.trans e);have c:l∈(List.range 406).filter fun t=>prog.rowNamed t [101,114,114,111,114]:=List.mem_filter.2 ⟨List.mem_range.2 (by rw [<-size];exact f),g⟩
 rw [oneRow] at c;obtain rfl:=bC.1 c;have k:typeHandle prog 43=E (some ⟨12,43,none⟩):=k7;rw [k] at b
 simpa [ErrT] using World.var?_cell et b 0
def wD1 (w:World):World:={ w with heap:=w.heap.modify 6 fun
 | R _ t frozen=>R #[.iface 289 (.agg #[E (some ⟨12,43,none⟩)])] t frozen
 | o=>o }
end
section
open Go.RowKit Go.Shelf
theorem gPow:prog.globalNamed "internal/strconv.uint64pow10" = some 5:=k7
theorem gRan:prog.globalNamed "strconv.ErrRange" = some 4:=k7
theorem gSyn:prog.globalNamed "strconv.ErrSyntax" = some 3:=k7
theorem tPow:(prog.globals[5]?).map (·.type)=some 271:=k7
theorem tRan:(prog.globals[4]?).map (·.type)=some 43:=k7
theorem tSyn:(prog.globals[3]?).map (·.type)=some 43:=k7
theorem qE1 {w:World} (h:w.var? prog "internal/strconv.uint64pow10" = some (Lib.pow10Tab.map fun z=>Value.int .u64 z).toArray):gV0 w:=by
 unfold World.var? at h;rw [gPow] at h;simp only [Option.bind_some] at h;split at h
 ·rename_i cs t f e;cases h;exact ⟨t,f,e⟩
 ·cases h
theorem qF1 {w:World} {a:String} {g:Nat} {t:TypeId} {m:Array (String×TypeId)} {cs:Array Value} {b:Nat} {d:DataW Unit} {n:String} {p:List MemPlace} (j:prog.globalNamed a=some g) (k:prog.underlying t=some (.interface m)) (l:w.var? prog a=some cs)
  (i:DataW.trod (fun _=>()) prog w 0 (fun _=>true) false b t cs.toList=some (.iface n d,p)):ErrV w g:=by
 obtain ⟨_,u,v,e,_,_⟩:=iface_of_trod k i;have f:=World.var?_cell j l 0
 have c:cs[0]? = some (.iface u v):=by
  have:cs.toList[0]? = some (.iface u v):=by rw [e];rfl
  simpa using this
 exact ⟨_,f.trans c,Or.inr ⟨u,v,rfl⟩⟩
theorem wE1:(Rows.laid_internal_strconv_uint64pow10:DataW Unit)=Lib.tabData .u64 Lib.pow10Tab:=by rfl
end
end Go.Proofs.YtaelphbianmckaaGreatDoor
namespace Go.Proofs.YtaelphbianmckaaGreatDoor.deskAnswers
open Go.ChangeShapes
theorem k2:laidOutB Tryz.pinned.checked.prog=true:=by kernel_rfl
theorem k3:mapsRowed Tryz.pinned.checked.prog=true:=by kernel_rfl
theorem k10:(Rows.deskAnswersRow.inPlace == Tryz.pinned.checked.prog.inPlace 4)=true:=by kernel_rfl
theorem k11:(Rows.deskAnswersRow.unfollowed == Tryz.pinned.checked.prog.unfollowed 4)=true:=by kernel_rfl
theorem k12:(Rows.deskAnswersRow.recurses == Tryz.pinned.checked.prog.recurses 4)=true:=by kernel_rfl
theorem k13:(Rows.deskAnswersRow.named == Tryz.pinned.checked.prog.varsNamed 4)=true:=by kernel_rfl
theorem k23:(Rows.deskAnswersRow.plainKeys == Tryz.pinned.checked.prog.plainKeys)=true:=by kernel_rfl
theorem k25:Tryz.pinned.checked.prog.stopsHeard=true:=by kernel_rfl
theorem k26:Tryz.pinned.checked.prog.mayEnter=true:=by kernel_rfl
theorem k27:(Rows.deskAnswersRow.lifted == Tryz.pinned.checked.prog.liftsFinal)=true:=by kernel_rfl
theorem k28:(Tryz.pinned.checked.prog.make == some Rows.deskAnswersRow.make)=true:=by kernel_rfl
theorem closed:joinedFacts Tryz.pinned.checked.prog 4 f4 (OpenSpec.ofChange Rows.deskAnswersSpec).bare Rows.deskAnswersRow=true:=by
 unfold joinedFacts;refine aW.2 ⟨?_,by kernel_rfl⟩;refine aW.2 ⟨?_,by kernel_rfl⟩;refine aW.2 ⟨?_,by kernel_rfl⟩;refine aW.2 ⟨?_,by kernel_rfl⟩;refine aW.2 ⟨?_,k28⟩;refine aW.2 ⟨?_,k27⟩;refine aW.2 ⟨?_,k26⟩;refine aW.2 ⟨?_,k25⟩;refine aW.2 ⟨?_,by kernel_rfl⟩;refine aW.2 ⟨?_,k23⟩;refine aW.2 ⟨?_,by kernel_rfl⟩;refine aW.2 ⟨?_,by kernel_rfl⟩;refine aW.2 ⟨?_,by kernel_rfl⟩;refine aW.2 ⟨?_,by kernel_rfl⟩;refine aW.2 ⟨?_,by kernel_rfl⟩;refine aW.2 ⟨?_,by kernel_rfl⟩;refine aW.2 ⟨?_,by kernel_rfl⟩;refine aW.2 ⟨?_,by kernel_rfl⟩;refine aW.2 ⟨?_,by kernel_rfl⟩;refine aW.2 ⟨?_,k13⟩;refine aW.2 ⟨?_,k12⟩;refine aW.2 ⟨?_,k11⟩;refine aW.2 ⟨?_,k10⟩;refine aW.2 ⟨?_,by kernel_rfl⟩;refine aW.2 ⟨?_,by kernel_rfl⟩;refine aW.2 ⟨?_,by kernel_rfl⟩;refine aW.2 ⟨?_,by kernel_rfl⟩;refine aW.2 ⟨?_,by kernel_rfl⟩;refine aW.2 ⟨?_,by kernel_rfl⟩;refine aW.2 ⟨?_,k3⟩;refine aW.2 ⟨?_,k2⟩
 kernel_rfl
theorem named:Tryz.pinned.checked.prog.funcNamed Rows.deskAnswersRow.func=some 4:=by kernel_rfl
end Go.Proofs.YtaelphbianmckaaGreatDoor.deskAnswers
namespace Go.Proofs.YtaelphbianmckaaGreatDoor
end Go.Proofs.YtaelphbianmckaaGreatDoor
