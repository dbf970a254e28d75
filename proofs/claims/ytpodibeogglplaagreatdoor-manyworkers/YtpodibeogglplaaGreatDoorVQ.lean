/- ManyWorkers -/
import Derived.Test.YtpodibeogglplaaGreatDoorVP
import Derived.Conc.WgGenN3
import Derived.Conc.CompanyWords
open Array renaming replicate->UJ, replicate_succ->Vp, replicate_zero->Vq, getElem?_append_left->Wh, getElem?_append_right->VX, getElem?_eq_some_iff->Sb, ext_getElem?->Vg, mem_of_getElem?->Ut
open Bool renaming true->G_, false->E_
open Go renaming Program->TB, World->C_, Frame->I_, Event->K_, Goroutine->H_, Value->D_, Addr->J_, TypeId->RZ, TypeInfo->Yj
open Go.Act renaming eval->XI
open Go.Conc renaming Goes->VK, goes_go->ZO, stepG_seq->Sy, stepG_skip->Ug, stepG_region_end->RX, aside_setCell->TQ, stepG_ret'->WM, AtRel->WW
open Go.Conc.Goes renaming stop->Ta
open Go.ConcN.Gen renaming kn_rely->Zq
open Go.MemAct renaming ofEvent->Td, touch?->VH
open Go.Region renaming ready->Tx
open Go.Region.linearise renaming go->VU
open List renaming push_toArray->Uv, append_toArray->Vy, nil_append->Tn, cons_append->TP, getD_eq_getElem?_getD->SY, getElem?_eq_getElem->Tp
open Option renaming some->A_, none->B_, getD_some->Sq, bind_eq_some_iff->TK, map_some->Si
open Option.some renaming injEq->Sk
set_option linter.all false
set_option maxHeartbeats 8000000
set_option maxRecDepth 100000
namespace Go.Mw
section
open Go.Rn hiding KK
open Go.Conc hiding served
open Go.RowKit Go.Conc.Lib Go.ConcR.Gen Go.ConcN.Gen
open Go.ConcR (KK WgAt stA smA rd wr mk Payload DC0)
open Go.ConcN (WgLive st_flag st_waiters RW DWs AtR0 Has)
variable {P:TB} {main:Bool} {R:C_->C_->Prop} {p:Place} {w w₁ w':C_} {b₀:I_} {a₀:Act} {ops₀:Array Oper} {i₀:Nat} {rest₀:List Nat} {k₀:List Item} {cs:List I_}
def lF{D D':C_->C_->Array K_->Prop}{Stop:H_->C_->Prop}(h:∀w w' es,D w w' es->D' w w' es):∀{n:Nat} {g:H_} {w:C_},VK P main R D Stop n g w->VK P main R D' Stop n g w
 |0,_,_,k=>k
 |n+1,g,w,k=>k.imp id λ⟨hs,k⟩=>⟨hs,λc r=>by
  have:=k c r
  revert this
  cases stepG P main g c<;>first|exact id|(simp only[ZO];exact λ⟨a,b⟩=>⟨h _ _ _ a,lF h b⟩)⟩
def kK(w w':C_)(es:Array K_)(h:DC0 w w' es):D0 p w w' es:=by
 obtain⟨rfl,rfl⟩:=h;exact⟨⟨rfl,rfl⟩,λe a=>by simp at a⟩
def ay(_:GI p w)(r:R0 p w w₁):GI p w₁:=r.gi
def Gx{L:WgLink}(a:p.ty=L.tWg)(h:GI p w):WgLive L.tWg p.Wg w:=a▸h.wg
def Gy{st sm:Int}(h:GI p w)(a:Aside p.Wg w w')(b:WgAt p.ty p.Wg w' st sm):GI p w':=JI h (Cv a).1 (Cv a).2.1 (Cv a).2.2 b
def aK5{P:TB}{p:Place}{L:WgLink}{aS Next:H_->C_->Prop}{j:Nat}{b₀:I_}{a₀:Act}{ops₀:Array Oper}{i₀:Nat}{rest₀:List Nat}{k₀:List Item}{cs:List I_}{mT:Nat}(H:WgLib P L)(e:p.ty=L.tWg)(x:j<2147483647)(k:∀w,GI p w->G0 P p (AtGo P aS Next) mT (G (b₀.at (a₀.put ((ops₀[i₀]?).bind (·.dst)) (.tuple #[])) (.inRegion ops₀ rest₀::k₀)) cs) w)(w:C_)(a:GI p w):G0 P p (AtKdS P p aS j Next) 12 (G ((base L.add).at ⟨#[.pointer (A_ ⟨p.Wg,0,B_⟩),.int .i64 1]++UJ 115 undef,[]⟩ [.code (body_add L)]) (b₀.at a₀ (.inRegion ops₀ (i₀::rest₀)::k₀)::cs)) w:=by
 lib_facts
 refine lF (kK (p:=p)) ?_;simp only[body_add,addFn,Sq,Vp,Vq,Uv,Vy,Tn,TP]
 repeat(first|u_c Sy ay a|u_c Ug ay a|u_c RX ay a|u_reg ay a|u_cond G_ ay a|u_cond E_ ay a|u_skip ay a|u_op ay a)
 refine Ta (λw₁ h₁=>?_);replace a:=ay a h₁;clear h₁;refine⟨rfl,_,stepG_mark0 .disable s7 rfl rfl (by k_ne) rfl H.f_disable (x_disable_n L) (x_disable_b L) (x_disable_x L) (x_disable_f L),40,lF (kK (p:=p)) ?_⟩
 walk_nrm
 repeat(first|u_c Sy ay a|u_c Ug ay a|u_c RX ay a|u_reg ay a|u_cond G_ ay a|u_cond E_ ay a|u_skip ay a|u_op ay a|u_defer ay a|u_bub ay a|u_call H.f_uAdd (nm_uAdd L) uAddFn ay a)
 refine Ta (λg l=>?_);replace a:=ay a l;clear l;refine⟨rfl,λb=>?_⟩;rcases Nat.eq_zero_or_pos j with rfl|q
 ·replace b:WgAt p.ty p.Wg g 0 0:=by simpa using b
  have z:((0+1:Nat):Int)*KK=KK:=by simp
  rw[z];have n:IntKind.u64.wrap (0+4294967296)=KK:=by decide
  refine⟨_,(stepG_add_atomic rfl rfl (by k_ne) rfl H.f_addU64 (x_addU64_n L) (x_addU64_b L) (x_addU64_x L) .u64 (x_addU64_f L) rfl rfl b.cellSt (b.thaw 0)).trans (by rw[n];rfl),.inr ⟨110,lF (kK (p:=p)) ?_⟩⟩;replace a:=Gy a (TQ g (stA p.Wg) (.int .u64 KK)) (b.setSt _);clear b;simp only[KK]at a⊢
  walk_nrm
  iterate 2 (first|u_c Sy ay a|u_c Ug ay a|u_c RX ay a|u_reg ay a|u_cond G_ ay a|u_cond E_ ay a|u_skip ay a|u_op ay a)
  u_c WM ay a
  u_leave1 H.f_uAdd ay a
  iterate 48 (first|u_c Sy ay a|u_c Ug ay a|u_c RX ay a|u_reg ay a|u_cond G_ ay a|u_cond E_ ay a|u_skip ay a|u_op ay a)
  u_conv H.underlying_tPU32 H.room_tU32 (WgLive.cell1 (Gx e a)).choose_spec ay a
  refine Ta (λm c=>?_);replace a:=ay a c;clear c;refine⟨rfl,_,stepG_markAt .read s7 rfl rfl (by k_ne) rfl H.f_raceRead (x_raceRead_n L) (x_raceRead_b L) (x_raceRead_x L) (x_raceRead_f L) (ad:=smA p.Wg) (by simp[XI,smA]),110,lF (kK (p:=p)) ?_⟩
  walk_nrm
  iterate 38 (first|u_c Sy ay a|u_c Ug ay a|u_c RX ay a|u_reg ay a|u_cond G_ ay a|u_cond E_ ay a|u_skip ay a|u_op ay a)
  u_c WM ay a
  refine Ta (λm c=>?_);replace a:=ay a c;clear c;refine⟨rfl,_,stepG_unwind_entry (v:=.tuple #[]) (evs:=#[mk .enable]) rfl H.f_enable (x_enable_n L) (x_enable_b L) (x_enable_x L) (x_enable_f L) (by simp[Extern.Race.none_]) (by simp[mk]) (by simp[mk]),mT+1,?_⟩;refine Goes.step rfl (λr f=>goes_leave0 rfl rfl H.f_add rfl ⟨kK _ _ _ ⟨rfl,rfl⟩,?_⟩)
  walk_nrm
  exact k _ (ay a f)
 ·obtain⟨V,hV⟩:∃V:Int,V=(j:Int)+1:=⟨_,rfl⟩;obtain⟨S,d⟩:∃S:Int,S=V*KK:=⟨_,rfl⟩;have h:IntKind.u64.wrap ((j:Int)*KK+4294967296)=S:=by rw[IntKind.wrap_u64,d,hV];simp only[KK];omega
  have i:((j+1:Nat):Int)*KK=S:=by rw[d,hV];simp
  rw[i];have a1:S / 4294967296=V:=by rw[d];simp only[KK];omega
  have s:bits .and .u64 S 2147483648=0:=by rw[d,hV];have:=st_flag (j+1) 0 o7 o7;simpa[KK]using this
  have t:bits .and .u64 S 2147483647=0:=by rw[d,hV];have:=st_waiters (j+1) 0 o7 o7;simpa[KK]using this
  have u:IntKind.i32.wrap V=V:=by rw[IntKind.wrap_i32];omega
  have o:1<V:=by omega
  have y:(V == 1)=E_:=by simp;omega
  have A:decide (V=1)=E_:=RH o7;have B:decide (V<0)=E_:=RH o7;have C:decide (0<V)=G_:=RI o7;have D:(V == 0)=E_:=by simp;omega
  have E:decide (V=0)=E_:=RH o7;refine⟨_,(stepG_add_atomic rfl rfl (by k_ne) rfl H.f_addU64 (x_addU64_n L) (x_addU64_b L) (x_addU64_x L) .u64 (x_addU64_f L) rfl rfl b.cellSt (b.thaw 0)).trans (by rw[h];rfl),.inl ⟨110,lF (kK (p:=p)) ?_⟩⟩;replace a:=Gy a (TQ g (stA p.Wg) (.int .u64 S)) (b.setSt _);clear b d hV h i
  walk_nrm
  iterate 2 (first|u_c Sy ay a|u_c Ug ay a|u_c RX ay a|u_reg ay a|u_cond G_ ay a|u_cond E_ ay a|u_skip ay a|u_op ay a)
  u_c WM ay a
  u_leave1 H.f_uAdd ay a
  iterate 82 (first|u_c Sy ay a|u_c Ug ay a|u_c RX ay a|u_reg ay a|u_cond G_ ay a|u_cond E_ ay a|u_skip ay a|u_op ay a|u_cnd G_ ay a|u_cnd E_ ay a)
  u_c WM ay a
  refine Ta (λm c=>?_);replace a:=ay a c;clear c;refine⟨rfl,_,stepG_unwind_entry (v:=.tuple #[]) (evs:=#[mk .enable]) rfl H.f_enable (x_enable_n L) (x_enable_b L) (x_enable_x L) (x_enable_f L) (by simp[Extern.Race.none_]) (by simp[mk]) (by simp[mk]),mT+1,?_⟩;refine Goes.step rfl (λr f=>goes_leave0 rfl rfl H.f_add rfl ⟨kK _ _ _ ⟨rfl,rfl⟩,?_⟩)
  walk_nrm
  exact k _ (ay a f)
def Ret(c:I_)(cs:List I_)(b:H_):Prop:=∃(b₀:I_) (a₀:Act) (ops₀:Array Oper) (i₀:Nat) (rest₀:List Nat) (k₀:List Item),c=b₀.at a₀ (.inRegion ops₀ (i₀::rest₀)::k₀)/\b=G (b₀.at (a₀.put ((ops₀[i₀]?).bind (·.dst)) (.tuple #[])) (.inRegion ops₀ rest₀::k₀)) cs
def rF(L:WgLink)(p:Place)(Q:H_->Prop)(g:H_)(_:C_):Prop:=
 ∃(T:Array D_) (c:I_) (cs:List I_) (b:H_),Ret c cs b/\Q b/\g=G ((base L.wait).at ⟨T,[]⟩ [.code (L7 L),.inLoop (L7 L),.inBlock 0]) (c::cs)/\T.size=84/\T[0]? = A_ (.pointer (A_ ⟨p.Wg,0,B_⟩))
def JU(P:TB)(Q:H_->Prop)(g:H_)(w:C_):Prop:=∃b,Q b/\∃n,VK P G_ WW DC0 (λg _=>g=b) n g w
def kU(_:True)(_:WW w w₁):True:=trivial
def bIo{P:TB}{p:Place}{L:WgLink}{b₀:I_}{a₀:Act}{ops₀:Array Oper}{i₀:Nat}{rest₀:List Nat}{k₀:List Item}{cs:List I_}(H:WgLib P L){Q:H_->Prop}(b:Q (G (b₀.at (a₀.put ((ops₀[i₀]?).bind (·.dst)) (.tuple #[])) (.inRegion ops₀ rest₀::k₀)) cs))(w:C_)(a:GI p w):G0 P p (AtKd P p (rF L p Q)) 3 (G ((base L.wait).at ⟨#[.pointer (A_ ⟨p.Wg,0,B_⟩)]++UJ 83 undef,[]⟩ [.code (body_wait L)]) (b₀.at a₀ (.inRegion ops₀ (i₀::rest₀)::k₀)::cs)) w:=by
 lib_facts
 refine lF (kK (p:=p)) ?_;simp only[body_wait,waitFn,Sq,Vp,Vq,Uv,Vy,Tn,TP]
 iterate 3 (first|u_c Sy ay a|u_c Ug ay a|u_c RX ay a|u_reg ay a|u_cond G_ ay a|u_cond E_ ay a|u_skip ay a|u_op ay a)
 refine Ta (λw₁ h₁=>?_);replace a:=ay a h₁;clear h₁;refine⟨rfl,_,stepG_mark0 .disable s7 rfl rfl (by k_ne) rfl H.f_disable (x_disable_n L) (x_disable_b L) (x_disable_x L) (x_disable_f L),3,lF (kK (p:=p)) ?_⟩
 walk_nrm
 u_c RX ay a
 u_c stepG_block ay a
 u_c stepG_loop ay a
 exact Ta λ_ _=>⟨_,_,_,_,⟨_,_,_,_,_,_,rfl,rfl⟩,b,rfl,by simp,by simp⟩
def bIm{L:WgLink}(H:WgLib P L)(i:p.ty=L.tWg)(Q:H_->Prop)(g:H_)(w:C_)(a:GI p w)(h:rF L p Q g w):∃m,G0 P p (AtW1 P p (JU P Q) (rF L p Q)) m g w:=by
 lib_facts
 obtain⟨T,c,cs,b,⟨b₀,a₀,ops₀,i₀,rest₀,k₀,rfl,r⟩,q,rfl,j,y⟩:=h;obtain⟨v0,v1,v2,v3,v4,v5,v6,v7,v8,v9,B,C,D,E,F,G,I,J,K,M,N,O,R,U,V,W,X,Y,Z,a0,a2,a3,a4,a5,a6,a7,a8,a9,b0,b3,b4,b5,b6,b7,b8,b9,c0,c2,c3,c4,c5,c6,c7,c8,c9,d0,d2,d3,d4,d5,d6,d7,d8,d9,e0,e1,e2,e3,e4,e5,e6,e7,e8,e9,f0,f1,f2,f3,f4,f5,f6,f7,f8,f9,rfl⟩:=array84 T j;simp only[List.getElem?_toArray,List.getElem?_cons_zero,Sk]at y;subst y;refine⟨30,lF (kK (p:=p)) ?_⟩;simp only[L7,body_wait,waitFn,Sq]
 u_c stepG_block ay a
 repeat(first|u_c Sy ay a|u_c Ug ay a|u_c RX ay a|u_reg ay a|u_cond G_ ay a|u_cond E_ ay a|u_skip ay a|u_op ay a|u_call H.f_uLoad (nm_uLoad L) uLoadFn ay a|u_call H.f_uCas (nm_uCas L) uCasFn ay a)
 refine Ta (λw₁ h₁=>?_);replace a:=ay a h₁;clear h₁;refine⟨rfl,λv hv d=>?_⟩;rcases Nat.eq_zero_or_pos v with rfl|A
 ·replace d:WgAt p.ty p.Wg w₁ 0 0:=by simpa using d
  refine⟨_,stepG_load_atomic (v:=0) rfl rfl (by k_ne) rfl H.f_loadU64 (x_loadU64_n L) (x_loadU64_b L) (x_loadU64_x L) .u64 (x_loadU64_f L) rfl d.cellSt,λ_=>⟨50,lF (kK (p:=p)) ?_⟩,λh=>absurd rfl h⟩;clear d
  walk_nrm
  iterate 2 (first|u_c Sy ay a|u_c Ug ay a|u_c RX ay a|u_reg ay a|u_cond G_ ay a|u_cond E_ ay a|u_skip ay a|u_op ay a)
  u_c WM ay a
  u_leave1 H.f_uLoad ay a
  repeat(first|u_c Sy ay a|u_c Ug ay a|u_c RX ay a|u_reg ay a|u_cond G_ ay a|u_cond E_ ay a|u_skip ay a|u_op ay a)
  refine Ta (λw₅ k=>?_);replace a:=ay a k;clear k;refine⟨rfl,_,stepG_mark0 .enable s7 rfl rfl (by k_ne) rfl H.f_enable (x_enable_n L) (x_enable_b L) (x_enable_x L) (x_enable_f L),12,lF (kK (p:=p)) ?_⟩
  walk_nrm
  repeat(first|u_c Sy ay a|u_c Ug ay a|u_c RX ay a|u_reg ay a|u_cond G_ ay a|u_cond E_ ay a|u_skip ay a|u_op ay a)
  u_conv H.underlying_tWgP H.room_tWg (WgLive.cell0 (Gx i a)).choose_spec ay a
  refine Ta (λw₆ l=>?_);replace a:=ay a l;clear l;refine⟨rfl,_,stepG_markAt .acquire s7 rfl rfl (by k_ne) rfl H.f_acquire (x_acquire_n L) (x_acquire_b L) (x_acquire_x L) (x_acquire_f L) (by simp[XI,stA]),⟨_,q,20,?_⟩⟩;replace a:True:=trivial
  walk_nrm
  iterate 18 (first|u_c Sy kU a|u_c Ug kU a|u_c RX kU a|u_reg kU a|u_cond G_ kU a|u_cond E_ kU a|u_skip kU a|u_op kU a)
  u_c WM kU a
  u_leave0 H.f_wait kU a
  exact Ta λ_ _=>r.symm
 ·obtain⟨S,f⟩:∃S:Int,(v:Int)*KK=S:=⟨_,rfl⟩;have a1:S / 4294967296=(v:Int):=by rw[<-f];simp only[KK];omega
  have b1:bits .and .u64 S 2147483648=0:=by rw[<-f];have:=st_flag v 0 o7 o7;simpa[KK]using this
  have b2:bits .and .u64 S 2147483647=0:=by rw[<-f];have:=st_waiters v 0 o7 o7;simpa[KK]using this
  have c1:IntKind.i32.wrap (v:Int)=(v:Int):=by rw[IntKind.wrap_i32];omega
  have d1:IntKind.u64.wrap (S+1)=S+1:=by rw[IntKind.wrap_u64,<-f];simp only[KK];omega
  have q3:decide ((v:Int)<0)=E_:=RH o7;have q4:decide (0<(v:Int))=G_:=RI o7;have q5:((v:Int) == 0)=E_:=by simp;omega
  have q6:decide ((v:Int)=0)=E_:=RH o7;rw[f]at d;refine⟨_,stepG_load_atomic (v:=S) rfl rfl (by k_ne) rfl H.f_loadU64 (x_loadU64_n L) (x_loadU64_b L) (x_loadU64_x L) .u64 (x_loadU64_f L) rfl d.cellSt,λh0=>absurd h0 o7,λ_=>⟨60,lF (kK (p:=p)) ?_⟩⟩;clear d
  walk_nrm
  iterate 2 (first|u_c Sy ay a|u_c Ug ay a|u_c RX ay a|u_reg ay a|u_cond G_ ay a|u_cond E_ ay a|u_skip ay a|u_op ay a)
  u_c WM ay a
  u_leave1 H.f_uLoad ay a
  repeat(first|u_c Sy ay a|u_c Ug ay a|u_c RX ay a|u_reg ay a|u_cond G_ ay a|u_cond E_ ay a|u_skip ay a|u_op ay a|u_call H.f_uLoad (nm_uLoad L) uLoadFn ay a|u_call H.f_uCas (nm_uCas L) uCasFn ay a|u_cnd G_ ay a|u_cnd E_ ay a)
  refine Ta (λw₂ s=>?_);replace a:=ay a s;clear s;refine⟨rfl,λv' z d=>⟨λe=>?_,λe=>?_⟩⟩
  ·subst e;rw[f]at d⊢;refine⟨_,(stepG_cas_hit (v:=S) (n:=S+1) rfl rfl (by k_ne) rfl H.f_casU64 (x_casU64_n L) (x_casU64_b L) (x_casU64_x L) .u64 (x_casU64_f L) rfl rfl rfl d.cellSt (d.thaw 0)).trans r7,70,lF (kK (p:=p)) ?_⟩;replace a:=Gy a (TQ w₂ (stA p.Wg) (.int .u64 (S+1))) (d.setSt _);clear d
   walk_nrm
   iterate 2 (first|u_c Sy ay a|u_c Ug ay a|u_c RX ay a|u_reg ay a|u_cond G_ ay a|u_cond E_ ay a|u_skip ay a|u_op ay a)
   u_c WM ay a
   u_leave1 H.f_uCas ay a
   repeat(first|u_c Sy ay a|u_c Ug ay a|u_c RX ay a|u_reg ay a|u_cond G_ ay a|u_cond E_ ay a|u_skip ay a|u_op ay a)
   u_conv H.underlying_tPU32 H.room_tU32 (WgLive.cell1 (Gx i a)).choose_spec ay a
   refine Ta (λw₇ x=>?_);replace a:=ay a x;clear x;refine⟨rfl,_,stepG_markAt .write s7 rfl rfl (by k_ne) rfl H.f_raceWrite (x_raceWrite_n L) (x_raceWrite_b L) (x_raceWrite_x L) (x_raceWrite_f L) (ad:=smA p.Wg) (by simp[XI,smA]),70,lF (kK (p:=p)) ?_⟩
   walk_nrm
   repeat(first|u_c Sy ay a|u_c Ug ay a|u_c RX ay a|u_reg ay a|u_cond G_ ay a|u_cond E_ ay a|u_skip ay a|u_op ay a)
   refine Ta (λw₃ t=>?_);replace a:=ay a t;clear t;refine⟨rfl,rfl,λ⟨st,d⟩=>stepG_semacquire_wait rfl rfl rfl H.f_semacquire (x_semacquire_n L) (x_semacquire_b L) (x_semacquire_x L) (x_semacquire_f L) (by simp[XI,smA]) d.cellSm,λo=>?_⟩;refine⟨_,(stepG_semacquire (n:=1) rfl rfl (by k_ne) rfl H.f_semacquire (x_semacquire_n L) (x_semacquire_b L) (x_semacquire_x L) (x_semacquire_f L) (by simp[XI,smA]) o.cellSm (by k_ne) (o.thaw 1)).trans r7,30,lF (kK (p:=p)) ?_⟩;replace a:=Gy a (TQ w₃ (smA p.Wg) (.int .u32 0)) (o.setSm 0);clear o
   walk_nrm
   repeat(first|u_c Sy ay a|u_c Ug ay a|u_c RX ay a|u_reg ay a|u_cond G_ ay a|u_cond E_ ay a|u_skip ay a|u_op ay a|u_call H.f_uLoad (nm_uLoad L) uLoadFn ay a|u_call H.f_uCas (nm_uCas L) uCasFn ay a)
   refine Ta (λw₄ u=>?_);replace a:=ay a u;clear u;refine⟨rfl,λd=>⟨_,stepG_load_atomic (v:=0) rfl rfl (by k_ne) rfl H.f_loadU64 (x_loadU64_n L) (x_loadU64_b L) (x_loadU64_x L) .u64 (x_loadU64_f L) rfl d.cellSt,30,lF (kK (p:=p)) ?_⟩⟩;clear d
   walk_nrm
   iterate 2 (first|u_c Sy ay a|u_c Ug ay a|u_c RX ay a|u_reg ay a|u_cond G_ ay a|u_cond E_ ay a|u_skip ay a|u_op ay a)
   u_c WM ay a
   u_leave1 H.f_uLoad ay a
   repeat(first|u_c Sy ay a|u_c Ug ay a|u_c RX ay a|u_reg ay a|u_cond G_ ay a|u_cond E_ ay a|u_skip ay a|u_op ay a)
   refine Ta (λw₅ k=>?_);replace a:=ay a k;clear k;refine⟨rfl,_,stepG_mark0 .enable s7 rfl rfl (by k_ne) rfl H.f_enable (x_enable_n L) (x_enable_b L) (x_enable_x L) (x_enable_f L),12,lF (kK (p:=p)) ?_⟩
   walk_nrm
   repeat(first|u_c Sy ay a|u_c Ug ay a|u_c RX ay a|u_reg ay a|u_cond G_ ay a|u_cond E_ ay a|u_skip ay a|u_op ay a)
   u_conv H.underlying_tWgP H.room_tWg (WgLive.cell0 (Gx i a)).choose_spec ay a
   refine Ta (λw₆ l=>?_);replace a:=ay a l;clear l;refine⟨rfl,_,stepG_markAt .acquire s7 rfl rfl (by k_ne) rfl H.f_acquire (x_acquire_n L) (x_acquire_b L) (x_acquire_x L) (x_acquire_f L) (by simp[XI,stA]),⟨_,q,20,?_⟩⟩;replace a:True:=trivial
   walk_nrm
   iterate 8 (first|u_c Sy kU a|u_c Ug kU a|u_c RX kU a|u_reg kU a|u_cond G_ kU a|u_cond E_ kU a|u_skip kU a|u_op kU a)
   u_c WM kU a
   u_leave0 H.f_wait kU a
   exact Ta λ_ _=>r.symm
  ·refine⟨_,stepG_cas_miss (v:=(v':Int)*KK) (old:=S) (n:=S+1) rfl rfl (by k_ne) rfl H.f_casU64 (x_casU64_n L) (x_casU64_b L) (x_casU64_x L) .u64 (x_casU64_f L) rfl rfl rfl d.cellSt (d.thaw 0) (by rw[<-f];simp only[KK];omega),20,lF (kK (p:=p)) ?_⟩;clear d
   walk_nrm
   iterate 2 (first|u_c Sy ay a|u_c Ug ay a|u_c RX ay a|u_reg ay a|u_cond G_ ay a|u_cond E_ ay a|u_skip ay a|u_op ay a)
   u_c WM ay a
   u_leave1 H.f_uCas ay a
   iterate 3 (first|u_c Sy ay a|u_c Ug ay a|u_c RX ay a|u_reg ay a|u_cond G_ ay a|u_cond E_ ay a|u_skip ay a|u_op ay a)
   u_c stepG_inBlock ay a
   u_c stepG_inLoop ay a
   exact Ta λ_ _=>⟨_,_,_,_,⟨_,_,_,_,_,_,rfl,r⟩,q,rfl,by simp,by simp⟩
end
section
open Go.Rn hiding KK
open Go.Conc hiding served
open Go.ConcR (KK WgAt stA smA rd wr mk Payload DC0)
variable {S:Nat->Prop} {w w':C_} {P:TB} {main:Bool} {D:(Nat->Prop)->C_->C_->Array K_->Prop} {Stop:(Nat->Prop)->H_->C_->Prop} {g:H_}
def lH(S:Nat->Prop){w:C_}(h:w'.heap.size=w.heap.size):more S w w'=S:=by
 funext b
 simp only[more,h];exact propext ⟨λx=>x.elim id λy=>by omega,.inl⟩
def ig{R:(Nat->Prop)->C_->C_->Prop}(b:g.status=.running)(h:∀a,R S w a->(stepG P main g a).goes λg' w' es=>D S a w' es/\∃r,Tree P main R D Stop r (more S a w') g' w'):∃r,Tree P main R D Stop r S g w:=by
 refine Tree.step b λa k=>?_
 have:=h a k;cases hst:stepG P main g a with
 |go g' w' es=>
  rw[hst,ZO]at this;exact⟨g',w',es,rfl,this⟩
 |_=>first|exact this.elim|(rw[hst]at this;exact this.elim)
def gL{R:(Nat->Prop)->C_->C_->Prop}(c:∀S a b,R S a b->R S b b)(d:∀S w,R S w w->D S w w #[]):∀{n:Nat} {g:H_} {w:C_},VK P main (R S) DC0 (λg w=>∃r,Tree P main R D Stop r S g w) n g w->∃r,Tree P main R D Stop r S g w
 |0,_,_,h=>Tree.all c h
 |n+1,g,w,h=>by
  rcases h with h|⟨i,h⟩
  ·exact Tree.all c h
  ·refine ig i λe k=>?_
   have:=h e k;cases hst:stepG P main g e with
   |go g' w' es=>
    simp only[hst,ZO]at this⊢;obtain⟨⟨rfl,rfl⟩,f⟩:=this;rw[lH S rfl];exact⟨d S _ (c _ _ _ k),gL c d f⟩
   |_=>first|exact this.elim|(rw[hst]at this;exact this.elim)
def aJj{R:(Nat->Prop)->C_->C_->Prop}{D0:C_->C_->Array K_->Prop}{St:H_->C_->Prop}(c:∀S a b,R S a b->R S b b)(f:∀w w' es,R S w w->D0 w w' es->D S w w' es/\w'.heap.size=w.heap.size)(d:∀g w,R S w w->St g w->Stop S g w):∀{n:Nat} {g:H_} {w:C_},VK P main (R S) D0 St n g w->∃r,Tree P main R D Stop r S g w
 |0,_,_,h=>⟨.zero,λe k=>d _ _ (c _ _ _ k) (h e k)⟩
 |n+1,g,w,h=>by
  rcases h with h|⟨l,h⟩
  ·exact⟨.zero,λe k=>d _ _ (c _ _ _ k) (h e k)⟩
  ·refine ig l λe k=>?_
   have:=h e k;cases hst:stepG P main g e with
   |go g' w' es=>
    simp only[hst,ZO]at this⊢;obtain⟨j,i⟩:=this;obtain⟨h1,h2⟩:=f _ _ _ (c _ _ _ k) j;rw[lH S h2];exact⟨h1,aJj c f d i⟩
   |_=>first|exact this.elim|(rw[hst]at this;exact this.elim)
def aXk(d:Region.Mode)(b:Array Oper)(c t:Nat)(a:Array Bool):
  (Tx d b a=[]/\VU d b (c+1) t a []=[])\/∃i∈Tx d b a,∃t',VU d b (c+1) t a []=i::VU d b c t' (a.setIfInBounds i G_) []:=by
 have e:VU d b (c+1) t a []=match (Tx d b a)[t % (Tx d b a).length]? with
   |some i=>VU d b c (t / (Tx d b a).length) (a.setIfInBounds i G_) [i]
   |none=>[].reverse:=rfl
 rw[e];cases hi:(Tx d b a)[t % (Tx d b a).length]? with
 |none=>
  refine .inl ⟨?_,rfl⟩;cases hr:Tx d b a with
  |nil=>rfl
  |cons x xs=>
   rw[hr]at hi;have f:t % (x::xs).length<(x::xs).length:=Nat.mod_lt _ s7;simp at hi;simp at f;omega
 |some i=>
  refine .inr ⟨i,List.mem_of_getElem? hi,t / (Tx d b a).length,?_⟩;show VU d b c _ (a.setIfInBounds i G_) [i]=_;rw[linearise_go_acc];rfl
end
section
open Go.Rn hiding KK
open Go.Conc hiding served
open Go.RowKit Go.Conc.Lib Go.ConcR.Gen Go.ConcN.Gen
open Go.ConcR (KK WgAt stA smA rd wr mk Payload DC0)
open Go.ConcN (WgLive st_flag st_waiters RW DWs AtR0 Has)
variable {P:TB} {main:Bool} {R:C_->C_->Prop} {D1:C_->C_->Array K_->Prop} {S1 Q:H_->C_->Prop} {g g':H_} {w w':C_} {es:Array K_}
def aC1(f:∀a b c,R a b->R b c->R a c)(e:∀a,R a a)(i:∀g w,S1 g w->∀g' w',stepG P main g w≠.go g' w' #[]):∀{n:Nat} {g:H_} {w:C_},VK P main R DC0 Q n g w->(∃k,VK P main R D1 S1 k g w)->VK P main R DC0 (λg w=>Q g w/\∃k,VK P main R D1 S1 k g w) n g w
 |0,_,_,h,⟨k,hk⟩=>λj r=>⟨h j r,k,hk.rely f r⟩
 |n+1,g,w,h,⟨k,hk⟩=>by
  rcases h with h|⟨m,h⟩
  ·exact .inl λj r=>⟨h j r,k,hk.rely f r⟩
  ·refine .inr ⟨m,λj r=>?_⟩;have:=h j r;cases hst:stepG P main g j with
   |go g' w' es=>
    simp only[hst,ZO]at this⊢;obtain⟨⟨rfl,rfl⟩,l⟩:=this;have d:=hk.rely f r;refine⟨⟨rfl,rfl⟩,aC1 f e i l ?_⟩;cases k with
    |zero=>exact absurd hst (i _ _ (d _ (e _)) _ _)
    |succ k=>
     rcases d with d|⟨_,d⟩
     ·exact absurd hst (i _ _ (d _ (e _)) _ _)
     ·have:=d _ (e _);simp only[hst,ZO]at this;exact⟨k,this.2⟩
   |_=>first|exact this.elim|(rw[hst]at this;exact this.elim)
def LX{D:C_->C_->Array K_->Prop}{d:H_->C_->Prop}(h:∀g w,Q g w->d g w):∀{n:Nat} {g:H_} {w:C_},VK P main R D Q n g w->VK P main R D d n g w
 |0,_,_,k=>λc r=>h _ _ (k c r)
 |n+1,g,w,k=>k.imp (λk c r=>h _ _ (k c r)) λ⟨hs,k⟩=>⟨hs,λc r=>by
  have:=k c r
  revert this
  cases stepG P main g c<;>first|exact id|(simp only[ZO];exact λ⟨a,b⟩=>⟨a,LX h b⟩)⟩
def aC2{d:C_->C_->Prop}{D:C_->C_->Array K_->Prop}(h:∀a b,R a b->d a b):∀{n:Nat} {g:H_} {w:C_},VK P main d D Q n g w->VK P main R D Q n g w
 |0,_,_,k=>λc r=>k c (h _ _ r)
 |n+1,g,w,k=>k.imp (λk c r=>k c (h _ _ r)) λ⟨hs,k⟩=>⟨hs,λc r=>by
  have:=k c (h _ _ r)
  revert this
  cases stepG P main g c<;>first|exact id|(simp only[ZO];exact λ⟨a,b⟩=>⟨a,aC2 h b⟩)⟩
def LY{I:C_->Prop}(h:∀a b,I a->R a b->I b):∀{n:Nat} {g:H_} {w:C_},I w->VK P main R DC0 Q n g w->VK P main R DC0 (λg w=>Q g w/\I w) n g w
 |0,_,_,i,k=>λc r=>⟨k c r,h _ _ i r⟩
 |n+1,g,w,i,k=>k.imp (λk c r=>⟨k c r,h _ _ i r⟩) λ⟨hs,k⟩=>⟨hs,λc r=>by
  have:=k c r
  revert this
  cases stepG P main g c<;>first|exact id|(simp only[ZO];exact λ⟨a,b⟩=>⟨a,LY h (by obtain⟨rfl,_⟩:=a;exact h _ _ i r) b⟩)⟩
def Dy(b:∀a,R a a)(d:stepG P main g w=.go g' w' es)(c:¬S1 g w)(h:∃k,VK P main R D1 S1 k g w):D1 w w' es/\∃k,VK P main R D1 S1 k g' w':=by
 obtain⟨k,h⟩:=h;cases k with
 |zero=>exact absurd (h _ (b _)) c
 |succ k=>
  rcases h with h|⟨_,h⟩
  ·exact absurd (h _ (b _)) c
  ·have:=h _ (b _);simp only[d,ZO]at this;exact⟨this.1,k,this.2⟩
end
section
open Go.Rn hiding KK
open Go.Conc hiding served
open Go.RowKit Go.Conc.Lib Go.ConcR.Gen Go.ConcN.Gen
open Go.ConcR (KK WgAt stA smA rd wr mk Payload DC0)
open Go.ConcN (WgLive st_flag st_waiters RW DWs AtR0 Has)
variable [Payload] {P:TB} {L:WgLink} {Wg C n Low k:Nat} {v:D_}
variable {g g':H_} {w w':C_} {es:Array K_}
def bEf(a b c:C_)(h:RW L.tWg Wg C n Low k a b)(d:RW L.tWg Wg C n Low k b c):RW L.tWg Wg C n Low k a c:=h.trans d
def PW(P:TB)(Wg:Nat)(g:H_)(_:C_):Prop:=∃g1,(∀w,stepG P E_ g w=.go g1 w #[mk (.releaseMerge (stA Wg))])/\∃g2,(∀w,stepG P E_ g1 w=.go g2 w #[])/\∃g3,(∀w,stepG P E_ g2 w=.go g3 w #[])/\∃g4,(∀w,stepG P E_ g3 w=.go g4 w #[])/\∃g5,∀w,stepG P E_ g4 w=.go g5 w #[mk .disable]
def Ob(a:stepG P E_ g w=.go g' w' es)(h:AtR0 P L.tWg Wg C n Low k v g w):es=#[mk (.releaseMerge (stA Wg))]:=by
 obtain⟨_,_,b,h1,_⟩:=h;rw[a]at h1;cases h1;rfl
def aL8{Own Rd:Nat->Loc->Prop}(h:PW P Wg g w)(i:∃m,VK P E_ (RW L.tWg Wg C n Low (k - 1)) (DWs Wg Own Rd C n k) (AtR0 P L.tWg Wg C n Low k v) m g w):AtR0 P L.tWg Wg C n Low k v g w:=by
 obtain⟨j,h0,l,h1,o,h2,p,h3,q,c⟩:=h;apply Classical.byContradiction;intro a;have no:∀{g g':H_} {w:C_},stepG P E_ g w=.go g' w #[]->¬AtR0 P L.tWg Wg C n Low k v g w:=λb h=>by have:=Ob b h;simp at this
 have a1:=(Dy RW.refl (h0 w) a i).2;have d:=(Dy RW.refl (h1 w) (no (h1 w)) a1).2;have a3:=(Dy RW.refl (h2 w) (no (h2 w)) d).2;have e:=(Dy RW.refl (h3 w) (no (h3 w)) a3).2;have f:=(Dy RW.refl (c w) (λh=>by have:=Ob (c w) h;simp[mk]at this) e).1;exact(f.2 _ (Array.mem_singleton.2 rfl)).2.1 rfl
def aPy(H:WgLib P L){c:I_}{cs:List I_}{i:Nat}(b:c.mode=.returning)(f:QuitsD P i 0 (G c cs))(w:C_)(a:WgLive L.tWg Wg w/\Has C (k - 1) v w):
  VK P E_ (RW L.tWg Wg C n Low (k - 1)) DC0 (AtR0 P L.tWg Wg C n Low k v) 23 (G ((baseD L.done).at ⟨#[.pointer (A_ ⟨Wg,0,B_⟩),undef,undef,undef],[]⟩ [.code (body_done L)]) (c::cs)) w:=by
 have e:=doneN (Own:=λ_ _=>False) (Rd:=λ_ _=>False) (n:=n) (Low:=Low) H b f w a
 have X:VK P E_ (RW L.tWg Wg C n Low (k - 1)) DC0 (PW P Wg) 23 (G ((baseD L.done).at ⟨#[.pointer (A_ ⟨Wg,0,B_⟩),undef,undef,undef],[]⟩ [.code (body_done L)]) (c::cs)) w:=by
  lib_facts
  simp only[body_done,doneFn,Sq]
  u_reg Zq a
  u_op Zq a
  u_call H.f_add (nm_add L) addFn Zq a
  u_c Sy Zq a
  u_cond G_ Zq a
  u_c Sy Zq a
  u_c Sy Zq a
  u_reg Zq a
  u_op Zq a
  u_op Zq a
  u_c RX Zq a
  u_cond G_ Zq a
  u_reg Zq a
  u_op Zq a
  u_conv H.underlying_tWgP H.room_tWg (WgLive.cell0 a.1).choose_spec Zq a
  refine Ta λj h₁=>⟨_,λw=>stepG_markAt .releaseMerge s7 rfl rfl (by k_ne) rfl H.f_relMerge (x_relMerge_n L) (x_relMerge_b L) (x_relMerge_x L) (x_relMerge_f L) (by simp[XI,stA]),?_⟩
  refine⟨_,λw=>RX,?_⟩;refine⟨_,λw=>Sy,?_⟩;refine⟨_,λw=>stepG_region,?_⟩;exact⟨_,λw=>stepG_mark0 .disable s7 rfl rfl (by k_ne) rfl H.f_disable (x_disable_n L) (x_disable_b L) (x_disable_x L) (x_disable_f L)⟩
 have Y:=aC1 bEf RW.refl (λg w h g' w' d=>by have:=Ob d h;simp at this) X ⟨_,e⟩;exact LX (λg w h=>aL8 h.1 h.2) Y
end
section
open Go.Rn hiding KK
open Go.Conc hiding served
variable {p:Place} {S:Nat->Prop} {w w':C_} {es:Array K_} {P:TB} {m:Bool} {J K:Nat->Prop} {val:Nat->D_} {Stop:(Nat->Prop)->H_->C_->Prop} {F:Nat->Prop} {bk:Nat}
def Rs(p:Place)(S:Nat->Prop)(w w₁:C_):Prop:=(∀b,kW p b\/S b->w₁.heap[b]? = w.heap[b]?)/\w.heap.size<=w₁.heap.size/\w₁.os=w.os
def aPv{Sh S':Nat->Prop}(h:Does Sh S w w' es)(k:∀b,S b->S' b):Does Sh S' w w' es:=by
 have f:∀b,more S w w' b->more S' w w' b:=λb i=>i.imp (k b) id
 exact⟨λc h1 h2=>h.same c h1 λh3=>h2 (k c h3),h.size,h.tape,h.os,h.output,λe d=>⟨λa g=>((h.evs e d).cell a g).imp (f _) id,λr j=>((h.evs e d).obj r j).imp (f _) id,(h.evs e d).mark⟩⟩
def aJi{o:Obj}(q:∀j,K j->J j)(l:∀b,F b->p.Low<=b)(s:F bk):∀{r:Rk} {S₀:Nat->Prop} {g:H_} {w:C_},(∀b,S₀ b->p.Low<=b)->¬S₀ bk->bk<w.heap.size->w.heap[bk]? = A_ o->Done p val K w->Tree P m (Rs p) (Does (kW p)) Stop r S₀ g w->
  Tree P m (Rl p J) (DW p J) (λS g w=>(∃S₀,Stop S₀ g w)/\((∀b,F b->S b)/\∀b,S b->p.Low<=b)/\w.heap[bk]? = A_ o/\Done p val K w) r (λb=>F b\/S₀ b) g w
 | .zero,S₀,g,w,h1,h2,h3,h4,h5,h=>λw₁ k=>
  ⟨⟨S₀,h w₁ ⟨λb x=>x.elim (k.low b) λx=>k.own b (.inr x),k.size,RJ Prod.fst k.os⟩⟩,⟨λb=>.inl,λb x=>x.elim (l b) (h1 b)⟩,(k.own bk (.inl s)).trans h4,λj a=>(k.cell j (q j a)).trans (h5 j a)⟩
 | .nu f,S₀,g,w,h1,h2,h3,h4,h5,h=>λw₁ k=>by
  have d:=(k.own bk (.inl s)).trans h4;have i:Done p val K w₁:=λj a=>(k.cell j (q j a)).trans (h5 j a)
  have A:=k.size;rcases h w₁ ⟨λb x=>x.elim (k.low b) λx=>k.own b (.inr x),k.size,RJ Prod.fst k.os⟩with c|⟨v,g',w',es,c,n,y⟩
  ·exact .inl ⟨⟨S₀,c⟩,⟨λb=>.inl,λb x=>x.elim (l b) (h1 b)⟩,d,i⟩
  ·have t:=k.gi.low;have z:=p.an;have u:=n.same p.An o7 λx=>by have:=h1 _ x;omega
   refine .inr ⟨v,g',w',es,c,aRl (aPv n λb x=>.inr x) k.gi λb x=>x.elim (l b) (h1 b),?_⟩
   have e:more (λb=>F b\/S₀ b) w₁ w'=λb=>F b\/more S₀ w₁ w' b:=by
    funext b
    simp only[more,or_assoc]
   rw[e];exact aJi q l s (λb x=>x.elim (h1 b) λx=>by omega) (λx=>x.elim h2 λx=>by omega) (by have:=n.size;omega) ((n.same bk o7 h2).trans d) (λj a=>by simp only[World.cell?,u];exact i j a) y
end
section
open Go.Rn hiding KK
open Go.Conc hiding served
open Go.ConcR (KK WgAt stA smA rd wr mk Payload DC0)
variable {P:TB} {p:Place} {X:H_->C_->Prop} {g:H_} {w:C_} {s:Bool}
def uV{m:Nat}:∀{k:Nat} {g:H_} {w:C_},GI p w->VK P G_ (R0 p) DC0 (λg w=>G0 P p X m g w) k g w->G0 P p X (m+k) g w
 |0,_,w,hg,h=>h w (.refl hg)
 |k+1,g,w,hg,h=>by
  rcases h with h|⟨d,h⟩
  ·exact VK.mono (h w (.refl hg)) o7
  ·refine Conc.Goes.step d λa r=>?_
   have:=h a r;cases hst:stepG P G_ g a with
   |go g' w' es=>
    simp only[hst,ZO]at this⊢;obtain⟨⟨rfl,rfl⟩,b⟩:=this;exact⟨⟨⟨rfl,rfl⟩,λe c=>by simp at c⟩,uV r.gi b⟩
   |_=>first|exact this.elim|(rw[hst]at this;exact this.elim)
def Ld{a:J_}(h:kW p a.block):Ev0 p ⟨.cell a,E_,s⟩:=by
 refine⟨λx b _=>?_,by simp,by simp,by simp,?_⟩
 ·cases s<;>(simp only[Td,VH,Sk]at b;subst b;exact⟨.inl ⟨a,rfl,h⟩,rfl⟩)
 ·cases s<;>exact h.1
end
section
open Go.Rn hiding KK
open Go.Conc hiding served
open Go.ConcR (KK WgAt stA smA rd wr mk Payload DC0)
variable (Sh U:Loc->Prop) (NR:J_->Prop)
def DA(_:Nat->Prop)(w w':C_)(es:Array K_):Prop:=w.heap.size<=w'.heap.size/\∀e∈es,nE Sh U NR w'.heap.size e
end
section
open Go.Rn hiding KK
open Go.Conc hiding served
open Go.ConcR (KK WgAt stA smA rd wr mk Payload DC0)
variable {S:Nat->Prop} {Sh U:Loc->Prop} {NR:J_->Prop} {w:C_} {s:Bool} {w₁:C_} {H:Array Obj} {o:Io} {P:TB} {m:Bool} {w':C_} {Stop:(Nat->Prop)->H_->C_->Prop}
def ji(S:Nat->Prop)(a b:C_)(_:(λ_=>WW) S a b):(λ_=>WW) S b b:=atRel_refl b
def jG(S:Nat->Prop)(w:C_)(_:(λ_=>WW) S w w):DA Sh U NR S w w #[]:=⟨Nat.le_refl _,λe a=>by simp at a⟩
def zK{a:J_}{wr:Bool}{B:Nat}(h1:¬Sh (.cell a))(h2:¬U (.cell a))(c:a.block<B):nE Sh U NR B ⟨.cell a,wr,s⟩:=by
 refine⟨λx b=>?_,by simp,by simp,λ_ _=>by simp,?_⟩
 ·cases s<;>(simp only[Td,VH,Sk]at b;subst b;exact⟨h1,h2⟩)
 ·cases s<;>exact c
def ka(h:w.heap=H/\io w=o)(r:WW w w₁):w₁.heap=H/\io w₁=o:=by
 obtain⟨d,rfl⟩:=r;exact h
def aJh{v:Nat->Prop}{n0:Nat}{H:Array Obj}{o:Io}(h1:∀b,v b->b<n0/\(∀a:J_,a.block=b->¬Sh (.cell a)/\¬U (.cell a))/\¬Sh (.obj b)/\¬U (.obj b))(h2:∀b,n0<=b->(∀a:J_,a.block=b->¬Sh (.cell a)/\¬U (.cell a))/\¬Sh (.obj b)/\¬U (.obj b))(h3:(¬Sh .output/\¬U .output)/\¬Sh .goroutines/\¬U .goroutines):
  ∀{r:Rk} {S S₀:Nat->Prop} {g:H_} {w:C_},(∀b,S₀ b->n0<=b/\b<w.heap.size)->(∀b:Nat,b<n0->w.heap[b]? = H[b]?)->n0<=w.heap.size->io w=o->Tree P m (λ_=>WW) (Does v) Stop r S₀ g w->
   Tree P m (λ_=>WW) (DA Sh U NR) (λ_ g w=>(∃S₀,Stop S₀ g w)/\(∀b:Nat,b<n0->w.heap[b]? = H[b]?)/\n0<=w.heap.size/\io w=o) r S g w
 | .zero,S,S₀,g,w,k1,k2,k3,k4,h=>λw₁ k=>by
  have:=h w₁ k;obtain⟨d,rfl⟩:=k;exact⟨⟨S₀,this⟩,k2,k3,k4⟩
 | .nu f,S,S₀,g,w,k1,k2,k3,k4,h=>λw₁ k=>by
  rcases h w₁ k with t|⟨B,g',w',es,t,q,C⟩
  ·obtain⟨d,rfl⟩:=k;exact .inl ⟨⟨S₀,t⟩,k2,k3,k4⟩
  ·refine .inr ⟨B,g',w',es,t,⟨q.size,λe z=>?_⟩,?_⟩
   ·have s:=q.evs e z;have l:=q.size
    have j:∀b,more S₀ w₁ w' b->n0<=b/\b<w'.heap.size:=λb i=>by
     obtain⟨d,rfl⟩:=k;rcases i with i|i
     ·have:=k1 b i;have l:w.heap.size<=w'.heap.size:=l;omega
     ·have:w.heap.size<=b:=i.1;omega
    have p:∀b,v b->b<w'.heap.size:=λb i=>by
     obtain⟨d,rfl⟩:=k;have:=(h1 b i).1;have l:w.heap.size<=w'.heap.size:=l;omega
    obtain⟨loc,wr,y⟩:=e;cases loc with
    |cell a=>
     rcases s.cell a rfl with c|⟨c,_⟩
     ·exact zK ((h2 _ (j _ c).1).1 a rfl).1 ((h2 _ (j _ c).1).1 a rfl).2 (j _ c).2
     ·exact zK ((h1 _ c).2.1 a rfl).1 ((h1 _ c).2.1 a rfl).2 (p _ c)
    |obj b=>
     have u:¬Sh (.obj b)/\¬U (.obj b)/\b<w'.heap.size:=by
      rcases s.obj b rfl with c|⟨c,_⟩
      ·exact⟨(h2 _ (j _ c).1).2.1,(h2 _ (j _ c).1).2.2,(j _ c).2⟩
      ·exact⟨(h1 _ c).2.2.1,(h1 _ c).2.2.2,p _ c⟩
     refine⟨λx n=>?_,by simp,by simp,λ_ _=>by simp,?_⟩
     ·cases y<;>cases wr<;>first|(simp only[Td,VH,Sk]at n;subst n;exact⟨u.1,u.2.1⟩)|(simp[Td,VH]at n)
     ·cases y<;>cases wr<;>exact u.2.2
    |mark mm=>
     have A:=s.mark mm rfl;cases mm<;>simp[pJ]at A<;>exact⟨λx n=>by simp[Td,VH]at n,by simp,by simp,λ_ _=>by simp,by simp[Td,MemAct.low]⟩
    |output=>
     refine⟨λx n=>?_,by simp,by simp,λ_ _=>by simp,trivial⟩;simp only[Td,VH,Sk]at n;subst n;exact h3.1
    |goroutines=>
     refine⟨λx n=>?_,by simp,by simp,λ_ _=>by simp,trivial⟩;simp only[Td,VH,Sk]at n;subst n;exact h3.2
   ·obtain⟨d,rfl⟩:=k;have l:w.heap.size<=w'.heap.size:=q.size;refine aJh h1 h2 h3 (S₀:=more S₀ (w.at d) w') (λb i=>?_) (λb i=>?_) o7 ((zT q.os q.output).trans k4) C
    ·rcases i with i|i
     ·have:=k1 b i;omega
     ·have:w.heap.size<=b:=i.1;omega
    ·exact(q.same b (show b<w.heap.size by omega) λc=>by have:=k1 b c;omega).trans (k2 b i)
end
section
open Go.Rn hiding KK
open Go.Conc hiding served
variable {H l:Array Obj} {o:Io} {w w₁:C_} {b k:Nat} {x v:D_} {t:RZ}
def HE(H l:Array Obj)(o:Io)(w:C_):Prop:=w.heap=H++l/\io w=o
def HE.at(h:HE H l o w)(r:WW w w₁):HE H l o w₁:=ka h r
def HE.size(h:HE H l o w):w.heap.size=H.size+l.size:=by rw[h.1];simp
def HE.old(h:HE H l o w)(a:b<H.size):w.heap[b]? = H[b]? :=by rw[h.1,Wh a]
def HE.get(h:HE H l o w)(k:Nat):w.heap[H.size+k]? = l[k]? :=by
 rw[h.1,VX o7];simp
def HE.alloc(h:HE H l o w)(a:Obj):HE H (l.push a) o (w.alloc a):=by
 refine⟨?_,h.2⟩;show w.heap.push a=_;rw[h.1,Array.append_push]
def HE.set(h:HE H l o w)(hk:l[k]? = A_ (.cells #[x] t)):HE H (l.setIfInBounds k (.cells #[v] t)) o (w.setCell ⟨H.size+k,0,B_⟩ v):=by
 have c:=(h.get k).trans hk;have b:=TQ w ⟨H.size+k,0,B_⟩ v;refine⟨?_,(zT b.os b.output).trans h.2⟩;have d:k<l.size:=(Sb.1 hk).1
 have e:(w.setCell ⟨H.size+k,0,B_⟩ v).heap[H.size+k]? = A_ (.cells #[v] t):=by
  rw[setCell_eq_setRow w (H.size+k) 0 _ t (0,0) _ c,setRow_heap w (H.size+k) _ _ t _ c];rfl
 apply Vg;intro i
 by_cases hi:i=H.size+k
 ·subst hi;rw[e,VX o7];simp[d]
 ·rw[b.block i hi,h.1]
  by_cases a:i<H.size
  ·rw[Wh a,Wh a]
  ·rw[VX o7,VX o7,Array.getElem?_setIfInBounds_ne o7]
def HE.cell(h:HE H l o w)(hk:l[k]? = A_ (.cells #[x] t)):w.cell? ⟨H.size+k,0,B_⟩=A_ x:=by
 have a:=(h.get k).trans hk;simp[World.cell?,a]
def HE.thaw(h:HE H l o w)(hk:l[k]? = A_ (.cells #[x] t)):w.frozen? ⟨H.size+k,0,B_⟩=E_:=by
 have a:=(h.get k).trans hk;simp[World.frozen?,a]
end
end Go.Mw
namespace Go.Rn
def Zc(i:Yj):Prop:=∀z,i.zero=A_ z->∀π:Ren,val π z=z
def aCn{α β:Type}(I:β->Prop)(f:α->β->Option (ForInStep β))(h:∀a b r,I b->f a b=A_ r->I r.value):∀(l:List α) (b b':β),I b->forIn l b f=A_ b'->I b'
 |[],b,b',hb,e=>by
  simp only[List.forIn_nil]at e;cases e;exact hb
 |x::l,b,b',hb,e=>by
  simp only[List.forIn_cons]at e;cases hf:f x b with
  |none=>rw[hf]at e;cases e
  |some r=>
   rw[hf]at e;have d:=h x b r hb hf;cases r with
   |done c=>cases e;exact d
   |yield c=>exact aCn I f h l c b' d e
variable {π:Ren} {z:D_} {d:TypeDesc} {b:Nat} {i:Yj} {t:RZ} {L:dW} {a:Nat} {xs:List Nat} {W:C_} {ρ:Ren} {c:Array D_} {v:D_}
def Rv(h:val π z=z):vals π z.cells=z.cells:=by rw[<-rQ,h]
def EW{s:String}{c:Bool}(h:∀π:Ren,val π z=z):Zc (Made.word d s z c b):=λa e π=>by cases e;exact h π
def aT4(h:val π z=z)(n:Nat):vals π (UJ n z.cells).flatten=(UJ n z.cells).flatten:=by
 apply Array.ext';rw[rC];have e:(UJ n z.cells).flatten.toList=(List.replicate n z.cells.toList).flatten:=by simp
 rw[e,List.map_flatten,List.map_replicate];have:z.cells.toList.map (val π)=z.cells.toList:=by rw[<-rC,Rv h]
 rw[this]
def aKq{o:Option (Array D_)}{c:Prop}[Decidable c](ho:∀zs,o=A_ zs->∀π:Ren,vals π zs=zs)(hi:Zc i):∀zs,(if c then B_ else o.bind λx=>i.zero.bind λy=>(pure (x++y.cells):Option (Array D_)))=A_ zs->∀π:Ren,vals π zs=zs:=by
 intro zs e π;split at e
 ·cases e
 ·cases o with
  |none=>cases e
  |some x=>
   cases hz:i.zero with
   |none=>rw[hz]at e;cases e
   |some y=>
    rw[hz]at e;cases e;rw[uH,ho x rfl π,Rv (hi y hz π)]
def bDl{f:RZ->Option Yj}(hi:∀t i,f t=A_ i->Zc i){fs:Array Field}(h:Made.reckonStruct f fs=A_ i):Zc i/\i.methods=#[]:=by
 unfold Made.reckonStruct at h;simp only[bind,TK]at h;obtain⟨s,l,h⟩:=h
 have m:∀zs,s.2.2.2.2.2.2.2.1=A_ zs->∀π:Ren,vals π zs=zs:=by
  rw[<-Array.forIn_toList]at l;refine aCn (λ(s:Array Field×Nat×Nat×Nat×Nat×Bool×Bool×Option (Array D_)×String)=>∀zs,s.2.2.2.2.2.2.2.1=A_ zs->∀π:Ren,vals π zs=zs) _ (λa b r k d=>?_) _ _ _ (λzs e π=>by cases e;exact qF) l;cases hx:f a.type with
  |none=>rw[hx]at d;cases d
  |some j=>
   rw[hx]at d;simp only[Option.bind_some]at d;have g:=hi _ _ hx
   repeat'(first|(cases d;done)|split at d)
   all_goals simp only[TK,pure,Sk]at d
   all_goals first|(obtain⟨_,_,rfl⟩:=d;exact aKq k g)|(obtain⟨_,_,d⟩:=d;repeat'(first|(cases d;done)|split at d))|skip
   all_goals(subst d;first|(intro zs e π;cases e;done)|exact aKq (c:=False) k g)
 split at h<;>(cases h;exact⟨λz e π=>by
  cases g:s.2.2.2.2.2.2.2.1 with
  |none=>simp[g]at e
  |some zs=>
   simp only[g,Si,Sk]at e;subst e;rw[fq,m zs g π],rfl⟩)
def bDm{b:RZ->Option Yj}(hi:∀t i,b t=A_ i->Zc i)(h:Made.reckon b d=A_ i):Zc i/\i.methods=#[]:=by
 unfold Made.reckon at h;cases d with
 |struct fs=>exact bDl hi h
 |array n e=>
  simp only[bind,TK,pure,Sk]at h;obtain⟨j,f,_,_,rfl⟩:=h;refine⟨λz a π=>?_,rfl⟩;split at a
  ·cases a
  ·split at a
   ·cases a;simp
   ·cases h0:j.zero with
    |none=>rw[h0]at a;cases a
    |some y=>
     rw[h0]at a;simp only[Si,Sk]at a;subst a;rw[fq,aT4 (hi _ _ f y h0 π)]
 |pointer e=>
  simp only[bind,TK]at h;obtain⟨j,f,h⟩:=h
  repeat'(first|(cases h;done)|split at h)
  all_goals simp only[TK,pure,Sk]at h
  all_goals(obtain⟨_,_,rfl⟩:=h;exact⟨EW λπ=>by simp,rfl⟩)
 |slice e=>
  simp only[bind,TK,pure,Sk]at h;obtain⟨_,_,_,_,rfl⟩:=h;exact⟨EW λπ=>by simp,rfl⟩
 |map k e=>
  simp only[bind,TK,pure,Sk]at h;obtain⟨_,_,_,_,_,_,_,_,rfl⟩:=h;exact⟨EW λπ=>by simp,rfl⟩
 |chan c e=>
  simp only[bind,TK,pure,Sk]at h;obtain⟨_,_,_,_,rfl⟩:=h;exact⟨EW λπ=>by simp,rfl⟩
 |func ps rs v=>
  simp only[bind,TK,pure,Sk]at h;obtain⟨_,_,rfl⟩:=h;exact⟨EW λπ=>by simp,rfl⟩
 |_=>cases h
def aDd{T:Tables}(h0:∀(t:Nat) i,T.types[t]? = A_ i->Zc i):∀(n:Nat) (t:RZ) (i:Yj),Made.infoAt T n t=A_ i->Zc i/\(T.types[t]? = A_ i\/i.methods=#[])
 |0,_,_,e=>by cases e
 |n+1,t,i,e=>by
  unfold Made.infoAt at e;split at e
  ·exact⟨h0 t i e,.inl e⟩
  ·rw[TK]at e;obtain⟨d,_,e⟩:=e;have:=bDm (λt i h=>(aDd h0 n t i h).1) e;exact⟨this.1,.inr this.2⟩
def aDi{T:Tables}(h0:∀(t:Nat) i,T.types[t]? = A_ i->Zc i)(h:T.info? t=A_ i):Zc i/\(T.types[t]? = A_ i\/i.methods=#[]):=by
 unfold Tables.info? at h;split at h
 ·exact⟨h0 t i h,.inl h⟩
 ·exact aDd h0 _ t i h
def nP(a:Nat)(xs:List Nat)(x:Nat):Nat:=if x<a then x else a+xs.idxOf x
def mU(a:Nat)(xs:List Nat)(y:Nat):Nat:=if y<a then y else xs.getD (y - a) 0
def lone(L:dW)(a:Nat)(xs:List Nat)(W:C_):C_:={ W with heap:=(W.heap.extract 0 a).map (obj (own L (nP a xs)))++UJ xs.length (.coro B_) }
def MG(h:a<=W.heap.size):(lone L a xs W).heap.size=a+xs.length:=by
 simp[lone];omega
def Ht(h:a<=W.heap.size)(c:b<a):(lone L a xs W).heap[b]? = (W.heap[b]?).map (obj (own L (nP a xs))):=by
 unfold lone;rw[Wh (by simp;omega)];simp[Array.getElem?_extract];intro d;exfalso;omega
def aEl(h:a<=W.heap.size):uM a xs.length (lone L a xs W):=by
 intro x h1 h2;unfold lone;rw[VX (by simp;omega)];simp[Array.getElem?_replicate];omega
def vZ(h:b<a):mU a xs b=b:=by unfold mU;simp[h]
def LQ(h:b<a):nP a xs b=b:=by unfold nP;simp[h]
def FC{y:Nat}(h:¬y<a)(h2:y<a+xs.length):mU a xs y∈xs:=by
 unfold mU;rw[RD h,SY,Tp o7];exact List.getElem_mem _
def aMt(d:∀x∈xs,a<=x)(f:xs.Nodup)(x y:Nat)(h1:x<a+xs.length)(h2:y<a+xs.length)(e:mU a xs x=mU a xs y):x=y:=by
 by_cases c:x<a
 ·by_cases b:y<a
  ·rwa[vZ c,vZ b]at e
  ·have:=d _ (FC b h2);rw[<-e,vZ c]at this;omega
 ·by_cases b:y<a
  ·have:=d _ (FC c h1);rw[e,vZ b]at this;omega
  ·unfold mU at e;rw[RD c,RD b,SY,SY,Tp o7,Tp o7]at e;have hp:=List.pairwise_iff_getElem.1 f;simp only[Sq]at e;rcases Nat.lt_trichotomy (x - a) (y - a)with h|h|h
   ·exact absurd e (hp _ _ _ _ h)
   ·omega
   ·exact absurd e.symm (hp _ _ _ _ h)
def aMs{x:Nat}(e:x<a\/a<=x/\x∈xs):mU a xs (nP a xs x)=x:=by
 rcases e with h|⟨h,b⟩
 ·rw[LQ h,vZ h]
 ·have d:=List.idxOf_lt_length_of_mem b;have c:nP a xs x=a+xs.idxOf x:=by unfold nP;rw[RD o7]
  rw[c];unfold mU;rw[RD o7,Nat.add_sub_cancel_left,SY,Tp d];simp
def aUt{x:Nat}(c:x<a\/a<=x/\x∈xs):nP a xs x<a+xs.length:=by
 rcases c with h|⟨h,b⟩
 ·rw[LQ h];omega
 ·unfold nP;have d:=List.idxOf_lt_length_of_mem b;rw[RD o7];omega
def Nm(L:dW)(a:Nat)(xs:List Nat)(v:D_):Prop:=val (own L (mU a xs)) (val (own L (nP a xs)) v)=v/\val (eF L (a+xs.length)) (val (own L (nP a xs)) v)=val (own L (nP a xs)) v
structure Ground(L:dW)(a:Nat)(xs:List Nat)(W:C_):Prop where
 low:∀b:Nat,b<a->∃c e f,W.heap[b]? = A_ (.cells c e f)/\f.1=f.2/\∀v∈c,Nm L a xs v
 size:a<=W.heap.size
 up:∀x∈xs,a<=x/\x<W.heap.size
 nd:xs.Nodup
def aJz(h:∀v∈c,val π (val ρ v)=v):vals π (vals ρ c)=c:=by
 apply Vg;intro i;rw[iw,iw];cases hc:c[i]? with
 |none=>rfl
 |some v=>simp only[Si];rw[h v (Ut hc)]
def aJ0(h:∀v∈c,val π (val ρ v)=val ρ v):vals π (vals ρ c)=vals ρ c:=by
 apply Vg;intro i;rw[iw,iw];cases hc:c[i]? with
 |none=>rfl
 |some v=>simp only[Si];rw[h v (Ut hc)]
def Ground.cells(g:Ground L a xs W)(b:Nat)(d:b<a):∃c e f,(lone L a xs W).heap[b]? = A_ (.cells c e f)/\f.1=f.2:=by
 obtain⟨c,e,f,h1,h2,_⟩:=g.low b d;rw[Ht g.size d,h1];exact⟨_,e,f,rfl,h2⟩
def Ground.tight(g:Ground L a xs W)(b:Nat)(o:Obj)(h:(lone L a xs W).heap[b]? = A_ o):obj (eF L (lone L a xs W).heap.size) o=o:=by
 rw[MG g.size];have i:=(Sb.1 h).1;rw[MG g.size]at i
 by_cases d:b<a
 ·obtain⟨c,e,f,h1,h2,h3⟩:=g.low b d;rw[Ht g.size d,h1]at h;cases h;show Obj.cells _ e f=Obj.cells _ e f;rw[aJ0 λv hv=>(h3 v hv).2]
 ·have:=aEl (L:=L) g.size b o7 o7;rw[h]at this;cases this;rfl
def Ground.blk(g:Ground L a xs W)(b:Nat)(d:b<a):W.heap[mU a xs b]? = ((lone L a xs W).heap[b]?).map (obj (own L (mU a xs))):=by
 obtain⟨c,e,f,h1,h2,h3⟩:=g.low b d;rw[vZ d,Ht g.size d,h1];show A_ (Obj.cells c e f)=A_ (Obj.cells _ e f);rw[aJz λv hv=>(h3 v hv).1]
def Ground.lt(g:Ground L a xs W)(b:Nat)(c:b<a+xs.length):mU a xs b<W.heap.size:=by
 by_cases h:b<a
 ·rw[vZ h];have:=g.size;omega
 ·exact(g.up _ (FC h c)).2
def Ground.inj(g:Ground L a xs W):∀x y,x<a+xs.length->y<a+xs.length->mU a xs x=mU a xs y->x=y:=aMt (λx b=>(g.up x b).1) g.nd
def aFj(k:IntKind)(n:Int):Nm L a xs (.int k n):=by constructor<;>simp
def Nb{ad:J_}(h:ad.block<a\/a<=ad.block/\ad.block∈xs):Nm L a xs (.pointer (A_ ad)):=by
 have h1:=aMs h;have h2:=xY (aUt h);constructor
 ·simp only[dI,Si]
  congr 2
  show({ ad with block:=mU a xs (nP a xs ad.block) }:J_)=ad;rw[h1]
 ·simp only[dI,Si]
  congr 2
  show({ ad with block:=cut (a+xs.length) (nP a xs ad.block) }:J_)={ ad with block:=nP a xs ad.block };rw[h2]
def Nm.iface(h:Nm L a xs v)(t:RZ):Nm L a xs (.iface t v):=by
 constructor
 ·simp only[fM];rw[h.1]
 ·simp only[fM];rw[h.2]
def Nm.agg(h:∀v∈c,Nm L a xs v):Nm L a xs (.agg c):=by
 constructor
 ·simp only[fq];rw[aJz λv hv=>(h v hv).1]
 ·simp only[fq];rw[aJ0 λv hv=>(h v hv).2]
end Go.Rn
