/- DeskPieces: a part of the proof, packed (the readable form: the templates). -/
import Derived.Test.YtaelphbianmckaaGreatDoorQA
import Derived.Test.YtaelphbianmckaaGreatDoorQR
import Derived.Test.YtaelphbianmckaaGreatDoorQG
import Derived.Deep.RegionLaw
import Derived.Test.YtaelphbianmckaaGreatDoorQK
import Derived.Test.YtaelphbianmckaaGreatDoorQQ
import Derived.Defers
import Derived.Recover
namespace Go.Proofs.YtaelphbianmckaaGreatDoor
open Go.RowKit Go.Shelf
structure ArgIs (w:World) (sb:Nat) (la:Option Addr) (l:List Int):Prop where
 cells:∀k,k<l.length→∃g,la=some ⟨g,0,none⟩∧¬g=sb∧w.cell? ⟨g,k,none⟩=some (.int .i64 (nI l k))
 nums:∀k,in64 (nI l k)
section
variable {w w':World} {lo sb n:Nat} {x:DsK} {H:DsS} {la:Option Addr} {l:List Int}
theorem DsIs.stay (h:DsIs w lo sb x H n) (hb:Below w.heap.size w w') {r:Int×List UInt8} {e:Ending} (he:dD0 r e):cY0 w w' lo sb n (r,H) e:=
 ⟨he,DsW.of_below hb,x,(h.below hb).more (Nat.le_succ n)⟩
theorem dD0.yes {t:List UInt8} {v:Value} (h:v=.string (baOf t)):dD0 (0,t) (.returned v):=Or.inl ⟨rfl,by rw [h]⟩
theorem dD0.no {m:Int} {t:List UInt8} (h:m≠0):dD0 (orE m t) (.panicked [{ v:=.iface 26 (.int .i64 m),recovered:=false }]):=by
 unfold orE;rw [if_neg h];exact Or.inr ⟨h,rfl⟩
theorem dD0.ok {m:Int} {t:List UInt8} {v:Value} (h:m=0) (hv:v=.string (baOf t)):dD0 (orE m t) (.returned v):=by
 unfold orE;rw [if_pos h,hv];exact Or.inl ⟨rfl,rfl⟩
theorem DsIs.told (h:DsIs w lo sb x H n) {H':DsS} (ho:Out (fun j=>j=sb) w w') (hbox:w'.heap[sb]? = some (.cells (dsV x H') 32 (0,0))) (hr:H'.rs=H.rs) (hm:H'.mkt=none):
  DsIs w' lo sb x H' (n+1)∧Out (DsW w lo sb) w w':=by
 refine ⟨⟨hbox,⟨h.slt.1,Nat.le_trans h.slt.2 ho.size⟩,fun h0=>?_,fun M e=>by rw [hm] at e;cases e⟩,ho.mono fun j hj=>Or.inl hj⟩;rw [hr] at h0 ⊢;obtain ⟨tb,e1,e2,e3,e4,e5,cs,f,e6⟩:=h.rows h0;have ht:¬tb=sb:=fun e=>by have:=h.slt.1;omega
 exact ⟨tb,e1,bR0 e2 ho ht,e3,e4,fun ⟨M,e⟩=>(by rw [hm] at e;cases e),cs,f,aE0 e6 ho ht⟩
end
theorem sH1 (la:Option Addr) (cl:Nat) (l:List Int) (lo sb n:Nat) (x:DsK) (H:DsS) (w:World) (h:DsIs w lo sb x H n):
  Calls Tryz.prog 36 #[.pointer (some ⟨sb,0,none⟩),.slice la l.length cl] w fun e w'=>cY0 w w' lo sb n (aX0 17 l H) e:=by
 have H1:Hid (DsIs w lo sb x H n):=h;clear h;go_enter Tryz.func36,Tryz.ntmps36;go_wp2_with fail;go_ret;exact H1.out.stay (Below.refl _ _) (dD0.yes rfl)
set_option maxHeartbeats 1000000 in
theorem pQ1 (la:Option Addr) (cl:Nat) (l:List Int) (lo sb n:Nat) (x:DsK) (H:DsS) (w:World) (h:DsIs w lo sb x H n):
  Calls Tryz.prog 35 #[.pointer (some ⟨sb,0,none⟩),.slice la l.length cl] w fun e w'=>cY0 w w' lo sb n (aX0 16 l H) e:=by
 have H1:Hid (DsIs w lo sb x H n):=h;have c0:=aA0 (j:=0) h.box rfl;have c1:=aA0 (j:=1) h.box rfl;have c2:=aA0 (j:=2) h.box rfl;have c3:=aA0 (j:=3) h.box rfl;have c4:=aA0 (j:=4) h.box rfl;have c5:=aA0 (j:=5) h.box rfl;have c6:=aA0 (j:=6) h.box rfl;have f0:=aB0 (j:=0) h.box;have f1:=aB0 (j:=1) h.box;have f2:=aB0 (j:=2) h.box;have f3:=aB0 (j:=3) h.box;have f4:=aB0 (j:=4) h.box;have f5:=aB0 (j:=5) h.box;have f6:=aB0 (j:=6) h.box;have HS:Hid _:=aH0 (j:=6) (.pointer none) (aH0 (j:=5) (.int .i64 0) (aH0 (j:=4) (.int .i64 0) (aH0 (j:=3) (.int .i64 0) (aH0 (j:=2) (.int .i64 0) (aH0 (j:=1) (.int .i64 0) (aH0 (j:=0) (.slice none 0 0) h.box))))));have HO:Hid _:=(((((((Out.refl (fun j=>j=sb) w).trans (aN0 w ⟨sb,0,none⟩ (.slice none 0 0)) (Went.refl _ _)).trans (aN0 _ ⟨sb,1,none⟩ (.int .i64 0)) (Went.refl _ _)).trans (aN0 _ ⟨sb,2,none⟩ (.int .i64 0)) (Went.refl _ _)).trans (aN0 _ ⟨sb,3,none⟩ (.int .i64 0)) (Went.refl _ _)).trans (aN0 _ ⟨sb,4,none⟩ (.int .i64 0)) (Went.refl _ _)).trans (aN0 _ ⟨sb,5,none⟩ (.int .i64 0)) (Went.refl _ _)).trans (aN0 _ ⟨sb,6,none⟩ (.pointer none)) (Went.refl _ _);clear h;go_enter Tryz.func35,Tryz.ntmps35;go_wp2_with fail;go_ret;refine ⟨dD0.yes rfl,HO.out.mono fun j hj=>Or.inl hj,{ x with ta:=none,tc:=0 },⟨HS.out,⟨H1.out.slt.1,Nat.le_trans H1.out.slt.2 HO.out.size⟩,fun h0=>?_,fun M e=>?_⟩⟩
 ·exact absurd h0 (Nat.lt_irrefl 0)
 ·cases e
set_option maxHeartbeats 2000000 in
theorem pR1 (la:Option Addr) (cl:Nat) (l:List Int) (lo sb n:Nat) (x:DsK) (H:DsS) (w:World) (h:DsIs w lo sb x H n) (ha:ArgIs w sb la l) (hl:l.length=3) (hM:H.mkt=none):
  Calls Tryz.prog 20 #[.pointer (some ⟨sb,0,none⟩),.slice la l.length cl] w fun e w'=>cY0 w w' lo sb n (aX0 1 l H) e:=by
 have H1:Hid (DsIs w lo sb x H n):=h;have HM:Hid (H.mkt=none):=hM;obtain ⟨g,rfl,hg,d0⟩:=ha.cells 0 (by omega);obtain ⟨g',e1,_,d1⟩:=ha.cells 1 (by omega);obtain ⟨g2,e2,_,d2⟩:=ha.cells 2 (by omega);cases e1;cases e2;have c1:=aA0 (j:=1) h.box rfl;have c2:=aA0 (j:=2) h.box rfl;have c3:=aA0 (j:=3) h.box rfl;have f1:=aB0 (j:=1) h.box;have f2:=aB0 (j:=2) h.box;have f3:=aB0 (j:=3) h.box;have HS:Hid _:=aH0 (j:=3) (.int .i64 (nI l 2)) (aH0 (j:=2) (.int .i64 (nI l 1)) (aH0 (j:=1) (.int .i64 (nI l 0)) h.box));have HO:Hid _:=(((Out.refl (fun j=>j=sb) w).trans (aN0 w ⟨sb,1,none⟩ (.int .i64 (nI l 0))) (Went.refl _ _)).trans (aN0 _ ⟨sb,2,none⟩ (.int .i64 (nI l 1))) (Went.refl _ _)).trans (aN0 _ ⟨sb,3,none⟩ (.int .i64 (nI l 2))) (Went.refl _ _);clear h ha hM;rw [hl];go_enter Tryz.func20,Tryz.ntmps20;go_upto_region 1 with fail;go_region;go_wp2_with fail;go_ret;obtain ⟨r1,r2⟩:=H1.out.told (H':={ H with st:=nI l 0,dy:=nI l 1,pr:=nI l 2 }) (aT0 HO.out) HS.out rfl HM.out;exact ⟨dD0.yes rfl,r2,x,r1⟩
set_option maxHeartbeats 2000000 in
theorem gR1 (la:Option Addr) (cl:Nat) (l:List Int) (lo sb n:Nat) (x:DsK) (H:DsS) (w:World) (h:DsIs w lo sb x H n) (ha:ArgIs w sb la l) (hl:l.length=2) (hM:H.mkt=none):
  Calls Tryz.prog 21 #[.pointer (some ⟨sb,0,none⟩),.slice la l.length cl] w fun e w'=>cY0 w w' lo sb n (aX0 2 l H) e:=by
 have H1:Hid (DsIs w lo sb x H n):=h;have HM:Hid (H.mkt=none):=hM;obtain ⟨g,rfl,hg,d0⟩:=ha.cells 0 (by omega);obtain ⟨g',e1,_,d1⟩:=ha.cells 1 (by omega);cases e1;have c4:=aA0 (j:=4) h.box rfl;have c5:=aA0 (j:=5) h.box rfl;have f4:=aB0 (j:=4) h.box;have f5:=aB0 (j:=5) h.box;have HS:Hid _:=aH0 (j:=5) (.int .i64 (nI l 1)) (aH0 (j:=4) (.int .i64 (nI l 0)) h.box);have HO:Hid _:=((Out.refl (fun j=>j=sb) w).trans (aN0 w ⟨sb,4,none⟩ (.int .i64 (nI l 0))) (Went.refl _ _)).trans (aN0 _ ⟨sb,5,none⟩ (.int .i64 (nI l 1))) (Went.refl _ _);clear h ha hM;rw [hl];go_enter Tryz.func21,Tryz.ntmps21;go_upto_region 1 with fail;go_region;go_wp2_with fail;go_ret;obtain ⟨r1,r2⟩:=H1.out.told (H':={ H with ti:=nI l 0,mo:=nI l 1 }) (aT0 HO.out) HS.out rfl HM.out;exact ⟨dD0.yes rfl,r2,x,r1⟩
theorem ErrE.isD {w:World} {err:Value} {n:Int} (h:ErrE err n):tW0 w err n (-1)∧(err=.nilIface∨n≠0):=by
 rcases h with ⟨h1,h2⟩ | ⟨h1,h2⟩
 ·exact ⟨Or.inl ⟨h1,h2,rfl⟩,Or.inl h1⟩
 ·exact ⟨Or.inr (Or.inl ⟨h1,rfl⟩),Or.inr h2⟩
theorem eQ0 (err:Value) (n:Int) (w:World) (hg:ErrT w) (h:ErrE err n):
  Calls Tryz.prog 66 #[err] w fun e w'=>nC1 n e∧Below w.heap.size w w':=gQ1 err n (-1) w hg (ErrE.isD h).1 (ErrE.isD (w:=w) h).2
theorem xE0 (p s:Int):in64 (bandL p s)∧in64 (bandH p s):=by
 unfold in64 bandL bandH bW0 inB;split
 ·rename_i h;simp only [Bool.and_eq_true,decide_eq_true_eq] at h;have h1:0≤p*s / 10000:=Int.ediv_nonneg (Int.mul_nonneg (by omega) (by omega)) (by decide);omega
 ·omega
set_option maxRecDepth 8000 in
set_option maxHeartbeats 2000000 in
theorem sI1 (la:Option Addr) (cl:Nat) (l:List Int) (lo sb n:Nat) (x:DsK) (H:DsS) (w:World) (h:DsIs w lo sb x H n) (ha:ArgIs w sb la l) (hl:l.length=2) (hv:DsVars w) (hB:12≤lo):
  Calls Tryz.prog 34 #[.pointer (some ⟨sb,0,none⟩),.slice la l.length cl] w fun e w'=>cY0 w w' lo sb n (aX0 15 l H) e:=by
 have H1:Hid (DsIs w lo sb x H n):=h;have HV:Hid (DsVars w):=hv;obtain ⟨g,rfl,hg,d0⟩:=ha.cells 0 (by omega);obtain ⟨g',e1,_,d1⟩:=ha.cells 1 (by omega);cases e1;have HSS:Hid (∀V,Below w.heap.size w V→(fun w':World=>w'.cell? ⟨g,0,none⟩=some (.int .i64 (nI l 0))∧w'.cell? ⟨g,1,none⟩=some (.int .i64 (nI l 1))) V):=fun V hV=>⟨bB0 hV d0,bB0 hV d1⟩
 clear h ha hv d0 d1 hg;rw [hl];go_enter Tryz.func34,Tryz.ntmps34;go_upto_region 1 with fail;refine eA0 (fun _=>fun w':World=>w'.cell? ⟨g,0,none⟩=some (.int .i64 (nI l 0))∧w'.cell? ⟨g,1,none⟩=some (.int .i64 (nI l 1))) (fun _ i=>i == 6) (by kernel_rfl) (fun _=>HSS.out _ (Below.refl _ _).drew) (fun hHeld=>?_);have bz:Below w.heap.size w w.drew:=(Below.refl _ _).drew;generalize w.drew=wz at bz hHeld ⊢;refine tkM7 0 (i:=0) (v:=?_) rfl (by kernel_rfl) (fun _ _ _ h=>h) (by rfl) ?_ (hHeld 0) ?_;rotate_left
 ·intro w hSw;try simp only [lateS_zero] at hSw
  try dsimp only at hSw
  go_simp;try rfl
 refine tkM7 0 (i:=1) (v:=?_) rfl (by kernel_rfl) (fun _ _ _ h=>h) (by rfl) ?_ (hHeld 0) ?_;rotate_left
 ·intro w hSw;try simp only [lateS_zero] at hSw
  try dsimp only at hSw
  go_simp;try rfl
 refine tkM7 0 (i:=2) (v:=?_) rfl (by kernel_rfl) (fun _ _ _ h=>h) (by rfl) ?_ (hHeld 0) ?_;rotate_left
 ·intro w hSw;try simp only [lateS_zero] at hSw
  try dsimp only at hSw
  go_simp;try rfl
 refine tkM7 0 (i:=3) (v:=?_) rfl (by kernel_rfl) (fun _ _ _ h=>h) (by rfl) ?_ (hHeld 0) ?_;rotate_left
 ·intro w hSw;try simp only [lateS_zero] at hSw
  try dsimp only at hSw
  go_simp;try rfl
 refine tkM7 0 (i:=4) (v:=?_) rfl (by kernel_rfl) (fun _ _ _ h=>h) (by rfl) ?_ (hHeld 0) ?_;rotate_left
 ·intro w hSw;try simp only [lateS_zero] at hSw
  try dsimp only at hSw
  go_simp;try rfl
 refine tkM7 0 (i:=5) (v:=?_) rfl (by kernel_rfl) (fun _ _ _ h=>h) (by rfl) ?_ (hHeld 0) ?_;rotate_left
 ·intro w hSw;try simp only [lateS_zero] at hSw
  try dsimp only at hSw
  go_simp;try rfl
 refine hH0 (i:=6) (by kernel_rfl) rfl (fun K hK=>?_);go_simp;refine (jO0 (nI l 0) (nI l 1) wz).mono ?_;rintro e w1 ⟨rfl,hb1⟩;have HB1:Hid (Below w.heap.size w w1):=aC0 bz hb1;refine hK.out _ _ (fun _ h=>by cases h) ?_;clear hK K hHeld bz hb1;refine puM7 (i:=7) (v:=?_) rfl (by kernel_rfl) (fun _ _ _ h=>h) (by rfl) ?_ ?_;rotate_left
 ·intro w;go_simp;try rfl
 refine puM7 (i:=8) (v:=?_) rfl (by kernel_rfl) (fun _ _ _ h=>h) (by rfl) ?_ ?_;rotate_left
 ·intro w;go_simp;try rfl
 refine puM7 (i:=9) (v:=?_) rfl (by kernel_rfl) (fun _ _ _ h=>h) (by rfl) ?_ ?_;rotate_left
 ·intro w;go_simp;try rfl
 refine puM7 (i:=10) (v:=?_) rfl (by kernel_rfl) (fun _ _ _ h=>h) (by rfl) ?_ ?_;rotate_left
 ·intro w;go_simp;try rfl
 refine puM7 (i:=11) (v:=?_) rfl (by kernel_rfl) (fun _ _ _ h=>h) (by rfl) ?_ ?_;rotate_left
 ·intro w;go_simp;try rfl
 refine puM7 (i:=12) (v:=?_) rfl (by kernel_rfl) (fun _ _ _ h=>h) (by rfl) ?_ ?_;rotate_left
 ·intro w;go_simp;try rfl
 refine puM7 (i:=13) (v:=?_) rfl (by kernel_rfl) (fun _ _ _ h=>h) (by rfl) ?_ ?_;rotate_left
 ·intro w;go_simp;try rfl
 refine gB0 (by kernel_rfl) ?_ _;have HVR:Hid (DsVars w1):=HV.out.below HB1.out (Nat.le_trans hB H1.out.slt.2);cases hok:bW0 (nI l 0) (nI l 1) with
 | true=>
  have ee:fW0 (nI l 0) (nI l 1)=.nilIface:=by unfold fW0;rw [if_pos hok]
  have HE:Hid (aH1 (nI l 0) (nI l 1)=0):=by show _=_;unfold aH1;rw [if_pos hok]
  rw [ee];obtain ⟨bi1,bi2⟩:=xE0 (nI l 0) (nI l 1);clear ee hok;go_wp2_with fail;refine (eQ0 .nilIface 0 w1 HVR.out.et (Or.inl ⟨rfl,rfl⟩)).mono ?_;rintro e w2 ⟨hc,hb2⟩;have HB2:Hid (Below w.heap.size w w2):=aC0 HB1.out hb2;have HT2:Hid (eZ0 w2):=HVR.out.tab.below hb2;rcases hc with ⟨_,rfl⟩ | ⟨h0,_⟩
  ·clear hb2;go_wp2_with fail;have hbL:=bel1 w2 (.cells #[.int .i64 (bandL (nI l 0) (nI l 1)),.int .i64 (bandH (nI l 0) (nI l 1))] 3)
   refine (aQ1 w2.heap.size 0 2 [bandL (nI l 0) (nI l 1),bandH (nI l 0) (nI l 1)] _ (hG0 w2 [bandL (nI l 0) (nI l 1),bandH (nI l 0) (nI l 1)] 3) (fun z hz=>by
    simp only [List.mem_cons,List.not_mem_nil,or_false] at hz;rcases hz with rfl | rfl
    ·exact bi1
    ·exact bi2) (by simp) (by simp) (HT2.out.below hbL)).mono ?_
   rintro e w3 ⟨rfl,hb3⟩;have HB3:Hid (Below w.heap.size w w3):=aC0 HB2.out (aC0 hbL hb3);clear hbL hb3;go_wp2_with fail;go_ret;refine H1.out.stay HB3.out ?_;exact dD0.ok HE.out rfl
  ·exact absurd rfl h0
 | false=>
  have ee:fW0 (nI l 0) (nI l 1)=.iface 26 (.int .i64 2):=by unfold fW0;rw [if_neg (by rw [hok];decide)]
  have HE:Hid (aH1 (nI l 0) (nI l 1)=2):=by show _=_;unfold aH1;rw [if_neg (by rw [hok];decide)]
  rw [ee];clear ee hok;go_wp2_with fail;refine (eQ0 (.iface 26 (.int .i64 2)) 2 w1 HVR.out.et (Or.inr ⟨rfl,by decide⟩)).mono ?_;rintro e w2 ⟨hc,hb2⟩;have HB2:Hid (Below w.heap.size w w2):=aC0 HB1.out hb2;rcases hc with ⟨h0,_⟩ | ⟨_,rfl⟩
  ·exact absurd h0 (by decide)
  ·clear hb2;go_wp2_with fail;refine ⟨rfl,H1.out.stay HB2.out ?_⟩;rw [HE.out];exact dD0.no (by decide)
end Go.Proofs.YtaelphbianmckaaGreatDoor
namespace Go.Proofs.YtaelphbianmckaaGreatDoor
open Go.RowKit
theorem pE0 {P:Program} {ops:Array Oper} {o:Oper} {a:Act} {w:World} {K:Act→World→Prop} {Q:Exit→Act→World→Prop} {E:Prop}
  (hg:o.guard=none) (s x:Operand) (t:TypeId) (hop:o.op=Op.call { callee:=Callee.builtin Builtin.append,args:=#[s,x],argTypes:=#[t,t] })
  (base:Nat) (e:TypeId) (i:TypeInfo) (z:Value) (size bytes:Nat) (ht:P.underlying t=some (.slice e)) (hi:P.info? e=some i) (hz:i.zero=some z)
  (hsize:i.size=size) (hby:i.bytes=bytes) (hzs:z.cells.size=size) (hsz:0<size)
  (v:Value) (n:Nat) (xs:List Value) (hs:a.eval s=v) (hown:w.ownsRow base e size v n xs)
  (ad:Addr) (m c:Nat) (news:List Value) (hx:a.eval x=.slice (some ad) m c) (hl:news.length=m*size) (hnews:∀j u,news[j]? = some u→w.cell? (ad.add j)=some u) (h1:∀u∈news,u.oneCell'=true)
  (h63:n+m≤maxLen) (hbytes:(n+m)*bytes≤140737488355328) (hbase:base≤w.heap.size)
  (h:∀v' w',w'.ownsRow base e size v' (n+m) (xs++news)→w.grownBy w' v.ownBlock→K (a.put o.dst v') w'):
  if Region.wanted o (yielded ops a.tmps)=true then Oper.wp P o a w K Q else E:=by
 have hw:Region.wanted o (yielded ops a.tmps)=true:=by simp [Region.wanted,hg]
 rw [if_pos hw];exact wp_append_own w s x t hop base e i z size bytes ht hi hz hsize hby hzs hsz v n xs hs hown ad m c news hx hl hnews h1 h63 hbytes hbase (fun v' w' h2 h3 _=>h v' w' h2 h3)
theorem xF0 (a b:List (Int×Int)):flat (a++b)=flat a++flat b:=by
 induction a with
 | nil=>rfl
 | cons r a ih=>simp [flat,ih]
theorem gS1 {rs:List (Int×Int)} {k:Nat} (h:k<rs.length):flat (rs.take k)++[.int .i64 (bU0 rs k).1,.int .i64 (bU0 rs k).2]=flat (rs.take (k+1)):=by
 rw [List.take_succ_eq_append_getElem h,xF0];simp [flat,bU0,h]
theorem zH0 {w:World} {base:Nat} {e:TypeId} {size:Nat} {v:Value} {n:Nat} {xs:List Value} (h:w.ownsRow base e size v n xs):∀k,v.ownBlock=some k→base≤k:=by
 intro k hk;obtain ⟨_,⟨rfl,_⟩ | ⟨g,c,cur,rfl,hg,_⟩⟩:=h
 ·cases hk
 ·cases hk;exact hg
theorem gT1 {w:World} {base:Nat} {e:TypeId} {v:Value} {n:Nat} {rs:List (Int×Int)} (h:w.ownsRow base e 2 v n (flat rs)) (hn:0<n):∃cb c:Nat,v=.slice (some ⟨cb,0,none⟩) n c∧cI0 w cb 0 rs:=by
 obtain ⟨_,⟨_,h0⟩ | ⟨g,c,cur,rfl,_,hh,_,_,_,hct⟩⟩:=h
 ·omega
 ·refine ⟨g,c,rfl,fun j u hj=>?_⟩
  have h3:cur.toList[j]? = some u:=by
   rw [←hct,List.getElem?_take] at hj;split at hj
   ·exact hj
   ·cases hj
  have h4:cur[j]? = some u:=by rw [←h3];simp
  simp [World.cell?,hh,h4]
end Go.Proofs.YtaelphbianmckaaGreatDoor
namespace Go.Proofs.YtaelphbianmckaaGreatDoor
open Go.RowKit Go.Shelf
theorem iO0:∀l:List Int,(dG0 l).length=l.length / 2
 | []=>rfl
 | [_]=>by simp [dG0]
 | _::_::l=>by
  have:=iO0 l;simp only [dG0,List.length_cons,this];omega
theorem sG0:∀(l:List Int) (k:Nat),2*k+1<l.length→bU0 (dG0 l) k=(nI l (2*k),nI l (2*k+1))
 | [],k,h=>absurd h (by simp)
 | [_],k,h=>absurd h (by simp)
 | a::b::l,0,_=>rfl
 | a::b::l,k+1,h=>by
  have e:=sG0 l k (by simp only [List.length_cons] at h;omega);have e1:bU0 (dG0 (a::b::l)) (k+1)=bU0 (dG0 l) k:=by simp [bU0,dG0]
  rw [e1,e];rfl
theorem lK1 {l:List Int} (h:∀k,in64 (nI l k)):mD0 (dG0 l):=fun k hk=>by
 rw [iO0] at hk;rw [sG0 l k (by omega)];exact ⟨WalkArith.wf_i64 (h _),WalkArith.wf_i64 (h _)⟩
theorem lX0 {w:World} {base:Nat} {e:TypeId} {size:Nat} {v:Value} {n:Nat} {xs:List Value} (h:w.ownsRow base e size v n xs):∃(a:Option Addr) (c:Nat),v=.slice a n c:=by
 obtain ⟨_,⟨rfl,rfl⟩ | ⟨g,c,cur,rfl,_⟩⟩:=h
 ·exact ⟨_,_,rfl⟩
 ·exact ⟨_,_,rfl⟩
set_option maxRecDepth 8000 in
set_option maxHeartbeats 2000000 in
theorem pS1 (la:Option Addr) (cl:Nat) (l:List Int) (lo sb n:Nat) (x:DsK) (H:DsS) (w:World) (h:DsIs w lo sb x H n) (ha:ArgIs w sb la l) (hl:l.length % 2=0) (hll:l.length≤10000) (hM:H.mkt=none):
  Calls Tryz.prog 19 #[.pointer (some ⟨sb,0,none⟩),.slice la l.length cl] w fun e w'=>cY0 w w' lo sb n (aX0 0 l H) e:=by
 obtain ⟨i0,hi,hz0,hz1,hz2⟩:=info_parts Tryz.infoRow;have H1:Hid (DsIs w lo sb x H n):=h;have HM:Hid (H.mkt=none):=hM;have HA:Hid (ArgIs w sb la l):=ha;have HL:Hid (l.length % 2=0):=hl;clear h ha hM hl;go_enter Tryz.func19,Tryz.ntmps19;go_wp2_with (at_make;refine wpList_make_own _ rfl _ _ 27 rfl w.heap.size 113 i0 (.agg #[.int .i64 0,.int .i64 0]) 2 Tryz.underlying27 hi hz0 hz1 _ _ _ (l.length / 2) rfl rfl (by go_num) (by rw [hz2];omega) (by unfold maxLen;omega) lR7 ?_;intro w3 hown3 hg3);have HB3:Hid (Below w.heap.size w w3):=(Below.refl _ _).grown hg3 lR7 (fun q hq=>by cases hq);have HO3:Hid (w3.ownsRow w.heap.size 113 2 _ 0 []):=hown3;clear hown3 hg3;go_loopw [5,6] (fun v i wr=>∃k j:Nat,2*k≤l.length∧j=2*k∧i=.int .i64 j∧wr.ownsRow w.heap.size 113 2 v k (flat ((dG0 l).take k))∧Below w.heap.size w wr) (fun _ i _=>l.length - (intOf i).toNat)
 case atStart=>exact ⟨0,0,Nat.zero_le _,rfl,rfl,HO3.out,HB3.out⟩
 case round=>
  obtain ⟨k,j,hk,hj,rfl,hown,hb⟩:=hrel;obtain ⟨va,vc,rfl⟩:=lX0 hown;have HJ:Hid (j=2*k):=hj;have HK:Hid (2*k≤l.length):=hk;have HSZ:Hid (w.heap.size≤wr.heap.size):=hb.size;have HBX:Hid (wr.heap[sb]? = some (.cells (dsV x H) 32 (0,0))):=aD0 H1.out.box hb lR7;have cS:=aA0 (j:=0) HBX.out rfl;have fS:=aB0 (j:=0) HBX.out;have HO:Hid (wr.ownsRow w.heap.size 113 2 (.slice va k vc) k (flat ((dG0 l).take k))):=hown;have HB:Hid (Below w.heap.size w wr):=hb;clear hown hb hj hk;go_wp2_with fail
  ·have hl2:=HL.out;have hj:=HJ.out;have hk1:j+1<l.length:=by omega
   clear cS fS;have hk2:k<(dG0 l).length:=by rw [iO0];omega
   obtain ⟨g,rfl,_,d0⟩:=HA.out.cells j (by omega);obtain ⟨g',e1,_,d1⟩:=HA.out.cells (j+1) hk1;cases e1;have c0:=(HB.out.cell (World.block_lt_of_cell? w _ d0)).trans d0;have c1:=(HB.out.cell (World.block_lt_of_cell? w _ d1)).trans d1;clear d0 d1
   have C3:Hid (∀q u,[Value.int .i64 (nI l j),.int .i64 (nI l (j+1))][q]? = some u→(wr.alloc (.cells #[.int .i64 (nI l j),.int .i64 (nI l (j+1))] 113)).cell? ((⟨wr.heap.size,0,none⟩:Addr).add q)=some u):=fun q u hj=>by
    rw [Addr.add_lit,Nat.zero_add,World.cell?_alloc_at _ _ _ _ rfl];simpa using hj
   have HF:Hid (flat ((dG0 l).take k)++[.int .i64 (nI l j),.int .i64 (nI l (j+1))]=flat ((dG0 l).take (k+1))):=by
    have:=gS1 hk2;rw [sG0 l k (by omega),←hj] at this;exact this
   have hk9:k≤5000:=by omega
   clear hl2 hj;have hw:IntKind.i64.wrap ((j:Int)+1)=(j:Int)+1:=IntWalk.i64_in _ (by omega);have hw0:(0:Int)≤(j:Int)+1:=by omega
   have hw1:(j:Int)+1<(l.length:Int):=by omega
   have hw2:((j:Int)+1).toNat=j+1:=by omega
   go_region_law (refine pE0 rfl _ _ 27 rfl w.heap.size 113 i0 (.agg #[.int .i64 0,.int .i64 0]) 2 16 Tryz.underlying27 hi hz0 hz1 hz2 rfl (by decide) (.slice va k vc) k (flat ((dG0 l).take k)) rfl (HO.out.alloc _) ⟨wr.heap.size,0,none⟩ 1 1 [.int .i64 (nI l j),.int .i64 (nI l (j+1))] rfl rfl C3.out (by simp [Value.oneCell']) (by unfold maxLen;omega) (by omega) (Nat.le_trans HB.out.size (by simp)) ?_;intro v1 w1 ho1 hg1)
   all_goals go_wp2
   all_goals go_roundw
   case rel=>exact ⟨k+1,j+2,(by have:=HJ.out;omega),(by have:=HJ.out;omega),by go_num,HF.out ▸ ho1,(HB.out.alloc HB.out.size _).drew.grown hg1 (Nat.le_trans HB.out.size (by simp)) (zH0 HO.out)⟩
   case measure=>first | (simp [intOf];omega) | omega
   case rel=>exact ⟨k+1,j+2,(by have:=HJ.out;omega),(by have:=HJ.out;omega),by go_num,HF.out ▸ ho1,(HB.out.alloc HB.out.size _).drew.grown hg1 (Nat.le_trans HB.out.size (by simp)) (zH0 HO.out)⟩
   case measure=>first | (simp [intOf];omega) | omega
  ·go_ret;have hj:=HJ.out;have hl2:=HL.out;have hkk:=HK.out;obtain rfl:k=l.length / 2:=by omega
   have hpl:(dG0 l).length=l.length / 2:=iO0 l
   have HO2:Hid (wr.ownsRow w.heap.size 113 2 (.slice va (l.length / 2) vc) (l.length / 2) (flat (dG0 l))):=by
    have:=HO.out;rw [←hpl,List.take_length,hpl] at this;exact this
   have hbox:=aH0 (j:=0) (.slice va (l.length / 2) vc) HBX.out;have hO:Out (fun j=>j=sb) w (wr.setCell ⟨sb,0,none⟩ (.slice va (l.length / 2) vc)):=(Out.of_below HB.out lR7).trans (aN0 wr ⟨sb,0,none⟩ _) (Went.refl _ _);refine ⟨dD0.yes rfl,hO.mono fun j hj=>Or.inl hj,{ x with ta:=va,tc:=vc },⟨?_,⟨H1.out.slt.1,Nat.le_trans H1.out.slt.2 hO.size⟩,fun h0=>?_,fun M e=>?_⟩⟩
   ·have e1:dsV { x with ta:=va,tc:=vc } { H with rs:=dG0 l }=(dsV x H).setIfInBounds 0 (.slice va (l.length / 2) vc):=by
     unfold dsV;rw [hpl];rfl
    rw [show (aX0 0 l H).2={ H with rs:=dG0 l } from rfl,e1];exact hbox
   ·have h1:0<l.length / 2:=hpl ▸ h0;obtain ⟨cb,c,e,hr⟩:=gT1 HO2.out h1;injection e with e2 _ e4;subst e2;have hlt:=HO2.out.lt cb rfl;have hne:¬cb=sb:=fun e=>by have:=H1.out.slt;omega
    obtain ⟨_,⟨e,_⟩ | ⟨g,c',cur,e,_,hh,_⟩⟩:=HO2.out
    ·cases e
    ·injection e with e5 _ _;injection e5 with e5;injection e5 with e5 _ _;subst e5;refine ⟨cb,rfl,bR0 hr (aN0 wr ⟨sb,0,none⟩ _) hne,lK1 HA.out.nums,Nat.le_trans H1.out.slt.2 hlt.1,fun ⟨M,e⟩=>?_,cur,(0,0),aE0 hh (aN0 wr ⟨sb,0,none⟩ _) hne⟩;rw [show (aX0 0 l H).2.mkt=H.mkt from rfl,HM.out] at e;cases e
   ·rw [show (aX0 0 l H).2.mkt=H.mkt from rfl,HM.out] at e;cases e
end Go.Proofs.YtaelphbianmckaaGreatDoor
namespace Go.Proofs.YtaelphbianmckaaGreatDoor
open Go.RowKit
theorem uX0:∀{rs:List (Int×Int)} {p:Int×Int} {i:Nat},(eW0 p i rs).1=0→eW0 p i rs=(0,-1)
 | [],_,_,_=>rfl
 | r::rs,p,i,h=>by
  unfold eW0 at h ⊢
  by_cases e:rowE p r=0
  ·rw [if_pos e] at h ⊢;exact uX0 h
  ·rw [if_neg e] at h;exact absurd h e
theorem lL1 {rs:List (Int×Int)} (h:(tabE rs).1=0):tabE rs=(0,-1):=by
 cases rs with
 | nil=>exact absurd h (by decide)
 | cons r rs=>
  rw [iX0] at h ⊢;split
  ·rename_i e;rw [if_pos e] at h;exact absurd h (by decide)
  ·rename_i e;rw [if_neg e] at h;split
   ·rename_i e2;rw [if_pos e2] at h;exact uX0 h
   ·rename_i e2;rw [if_neg e2] at h;exact absurd h (by decide)
theorem uY0 {rs:List (Int×Int)} {st dy p ti mo:Int} (h:(newE rs st dy p ti mo).1=0):tabE rs=(0,-1)∧lJ0 st dy p=true∧(1≤ti∧ti≤1000000)∧(0≤mo∧mo≤10)∧(1≤p∧p≤1000000)∧(0≤st∧st≤10000)∧(0≤dy∧dy≤10000):=by
 unfold newE at h
 by_cases h0:(tabE rs).1≠0
 ·rw [if_pos h0] at h;exact absurd h h0
 ·rw [if_neg h0] at h;have h1:(tabE rs).1=0:=Classical.byContradiction h0
  by_cases h2:lJ0 st dy p=true∧oG0 ti mo=true
  ·refine ⟨lL1 h1,h2.1,?_⟩;obtain ⟨g1,g2⟩:=h2;unfold lJ0 bW0 inB at g1;unfold oG0 at g2;simp only [Bool.and_eq_true,decide_eq_true_eq] at g1 g2;omega
  ·rw [if_neg h2] at h;exact absurd h (by decide)
end Go.Proofs.YtaelphbianmckaaGreatDoor
namespace Go.Proofs.YtaelphbianmckaaGreatDoor
open Go.RowKit Go.Shelf
theorem Eg.outT {w w':World} {eb:Nat} {k:EgK} {M:Mkt} {S:Nat→Prop} (h:Eg w eb k M) (ho:Out S w w') (hS:∀j,k.foot eb j→¬S j) (ht:w'.cell? ⟨k.tb,0,none⟩=some (.slice (some ⟨k.cb,0,none⟩) M.rs.length k.ct)∧cI0 w' k.cb 0 M.rs):Eg w' eb k M:=
 ⟨aE0 h.box ho (hS _ (Or.inl rfl)),ht,Nat.lt_of_lt_of_le h.tlt ho.size,
  aE0 h.bn ho (hS _ (Or.inr (Or.inl rfl))),h.bk.out ho (fun _ hj=>hS _ (Or.inr (Or.inr (Or.inl hj)))),h.lnk,aL0 h.pk ho (fun _ hj=>hS _ (Or.inr (Or.inr (Or.inr (Or.inl hj))))),
  h.tkn.same (ho.block _ h.tkn.lt (hS _ (Or.inr (Or.inr (Or.inr (Or.inr rfl)))))),h.tkf,h.few,h.far⟩
theorem sH0:∀(rs:List (Int×Int)) (j:Nat) (u:Value),(flat rs)[j]? = some u→∃z,u=.int .i64 z
 | [],j,u,h=>absurd h (by simp [flat])
 | r::rs,0,u,h=>⟨r.1,by simpa [flat] using h.symm⟩
 | r::rs,1,u,h=>⟨r.2,by simpa [flat] using h.symm⟩
 | r::rs,j+2,u,h=>sH0 rs j u (by simpa [flat] using h)
theorem lM1 (a:Option Addr) (cap m:Nat) (w:World) (hl:20<m) (hm:m≤10000):Calls Tryz.prog 112 #[.slice a m cap] w fun e w'=>e=.returned (.tuple #[.pointer none,.iface 26 (.int .i64 4)])∧w'=w:=by
 go_enter Tryz.func112,Tryz.ntmps112;go_wp2;go_ret2;exact ⟨rfl,rfl⟩
set_option maxRecDepth 8000 in
set_option maxHeartbeats 4000000 in
theorem bN1 (a:Option Addr) (cap:Nat) (rs:List (Int×Int)) (st dy p ti mo:Int) (w:World) (hl:20<rs.length) (hm:rs.length≤10000):
  Calls Tryz.prog 65 #[.agg #[.slice a rs.length cap,.int .i64 st,.int .i64 dy,.int .i64 p,.int .i64 ti,.int .i64 mo]] w fun e w'=>eJ1 w rs st dy p ti mo e w':=by
 have HE:Hid (newE rs st dy p ti mo=(4,-1)):=by
  show _=_;unfold newE;rw [mU0 hl];rfl
 go_enter Tryz.func65,Tryz.ntmps65;go_upto_region 1 with fail;have hx:=heap_alloc_new w (.cells #[.slice a rs.length cap,.int .i64 st,.int .i64 dy,.int .i64 p,.int .i64 ti,.int .i64 mo] 29);have hb:=bel1 w (.cells #[.slice a rs.length cap,.int .i64 st,.int .i64 dy,.int .i64 p,.int .i64 ti,.int .i64 mo] 29);generalize w.alloc (.cells #[.slice a rs.length cap,.int .i64 st,.int .i64 dy,.int .i64 p,.int .i64 ti,.int .i64 mo] 29)=w1 at hx hb ⊢;have c0:w1.cell? ⟨w.heap.size,0,none⟩=some (.slice a rs.length cap):=aA0 (j:=0) hx rfl;have HB:Hid (Below w.heap.size w w1):=hb;clear hx hb;go_wp2_with fail;refine (lM1 a cap rs.length w1 hl hm).mono ?_;rintro e w2 ⟨rfl,hw⟩;subst hw;go_wp2_with fail;go_ret2;exact kN0 (by rw [HE.out];exact Or.inr (Or.inl ⟨rfl,rfl⟩)) HB.out
theorem tN1 (lo sb n:Nat) (x:DsK) (H:DsS) (w:World) (h:DsIs w lo sb x H n) (hr:H.rs.length≤10000):
  Calls Tryz.prog 65 #[.agg #[.slice x.ta H.rs.length x.tc,.int .i64 H.st,.int .i64 H.dy,.int .i64 H.pr,.int .i64 H.ti,.int .i64 H.mo]] w fun e w'=>
   ((newE H.rs H.st H.dy H.pr H.ti H.mo).1=0∧H.rs.length≤60∧eH1 w H.rs H.st H.dy H.pr H.ti H.mo e w')∨((newE H.rs H.st H.dy H.pr H.ti H.mo).1≠0∧eJ1 w H.rs H.st H.dy H.pr H.ti H.mo e w'):=by
 by_cases h0:H.rs.length=0
 ·have e0:H.rs=[]:=List.eq_nil_of_length_eq_zero h0;rw [h0,e0];exact (aO1 x.ta x.tc H.st H.dy H.pr H.ti H.mo w).mono fun e w' hN=>Or.inr ⟨by unfold newE;rw [if_pos (by decide)];decide,hN⟩
 ·by_cases h1:20<H.rs.length
  ·exact (bN1 x.ta x.tc H.rs H.st H.dy H.pr H.ti H.mo w h1 hr).mono fun e w' hN=>Or.inr ⟨by unfold newE;rw [mU0 h1,if_pos (by decide)];decide,hN⟩
  ·obtain ⟨tb,e1,e2,e3,_⟩:=h.rows (by omega);rw [e1]
   by_cases hE:(newE H.rs H.st H.dy H.pr H.ti H.mo).1=0
   ·obtain ⟨z1,z2,z3,z4,z5,z6,z7⟩:=uY0 hE;exact (jY1 tb 0 x.tc H.rs H.st H.dy H.pr H.ti H.mo w e2 e3 (by omega) (by omega) z1 z2 z3 z4).mono fun e w' hN=>Or.inl ⟨hE,by omega,hN⟩
   ·exact (kC1 tb 0 x.tc H.rs H.st H.dy H.pr H.ti H.mo w e2 e3 (by omega) (by omega) hE).mono fun e w' hN=>Or.inr ⟨hE,hN⟩
set_option maxRecDepth 8000 in
set_option maxHeartbeats 2000000 in
theorem pT1 (la:Option Addr) (cl:Nat) (l:List Int) (lo sb n:Nat) (x:DsK) (H:DsS) (w:World) (h:DsIs w lo sb x H n) (hr:H.rs.length≤10000) (hM:H.mkt=none) (hv:DsVars w) (hB:12≤lo):
  Calls Tryz.prog 22 #[.pointer (some ⟨sb,0,none⟩),.slice la l.length cl] w fun e w'=>cY0 w w' lo sb n (aX0 3 l H) e:=by
 have H1:Hid (DsIs w lo sb x H n):=h;have HM:Hid (H.mkt=none):=hM;have HV:Hid (DsVars w):=hv;have c0:w.cell? ⟨sb,0,none⟩=some (.slice x.ta H.rs.length x.tc):=aA0 (j:=0) h.box rfl;have c1:w.cell? ⟨sb,1,none⟩=some (.int .i64 H.st):=aA0 (j:=1) h.box rfl;have c2:w.cell? ⟨sb,2,none⟩=some (.int .i64 H.dy):=aA0 (j:=2) h.box rfl;have c3:w.cell? ⟨sb,3,none⟩=some (.int .i64 H.pr):=aA0 (j:=3) h.box rfl;have c4:w.cell? ⟨sb,4,none⟩=some (.int .i64 H.ti):=aA0 (j:=4) h.box rfl;have c5:w.cell? ⟨sb,5,none⟩=some (.int .i64 H.mo):=aA0 (j:=5) h.box rfl;clear h hM hv;go_enter Tryz.func22,Tryz.ntmps22;go_wp2_with fail;refine (tN1 lo sb n x H w H1.out hr).mono ?_;rintro e w1 hN;rcases hN with ⟨hE,hr6,eb,k,rfl,hEg,hk0,hft,hb⟩ | ⟨hE,err,rfl,he,hb⟩
 ·have HE:Hid ((newE H.rs H.st H.dy H.pr H.ti H.mo).1=0):=hE;have HEG:Hid (Eg w1 eb k (newM H.rs H.st H.dy H.pr H.ti H.mo)):=hEg;have HFT:Hid (∀j,k.foot eb j→w.heap.size≤j):=hft;have HB1:Hid (Below w.heap.size w w1):=hb;have hbx:=aD0 H1.out.box hb lR7;have HV1:Hid (DsVars w1):=HV.out.below hb (Nat.le_trans hB H1.out.slt.2);clear hE hEg hft hb c0 c1 c2 c3 c4 c5;have HBX:Hid _:=hbx;clear hbx;go_wp2_with fail;refine (eQ0 .nilIface 0 w1 HV1.out.et (Or.inl ⟨rfl,rfl⟩)).mono ?_;rintro e w2 ⟨hc,hb2⟩;rcases hc with ⟨_,rfl⟩ | ⟨h0,_⟩
  ·have HBX2:Hid _:=aD0 HBX.out hb2 lR7;have HEG2:Hid (Eg w2 eb k (newM H.rs H.st H.dy H.pr H.ti H.mo)):=HEG.out.below hb2;have HB2:Hid (Below w.heap.size w w2):=aC0 HB1.out hb2;have c6:=aA0 (j:=6) HBX2.out rfl;have f6:=aB0 (j:=6) HBX2.out;clear hb2;go_wp2_with fail;go_ret;have hbox:=aH0 (j:=6) (.pointer (some ⟨eb,0,none⟩)) HBX2.out;have hO0:Out (fun j=>j=sb) w2 (w2.setCell ⟨sb,6,none⟩ (.pointer (some ⟨eb,0,none⟩))):=aN0 w2 ⟨sb,6,none⟩ _;have hO:Out (fun j=>j=sb) w (w2.setCell ⟨sb,6,none⟩ (.pointer (some ⟨eb,0,none⟩))):=(Out.of_below HB2.out lR7).trans hO0 (Went.refl _ _)
   have hD:aX0 3 l H=((0,gD0 3),{ H with mkt:=some (newM H.rs H.st H.dy H.pr H.ti H.mo) }):=by
    show (if _ then _ else _)=_;rw [if_pos HE.out]
   have hsb:¬k.foot eb sb:=fun e=>by
    have:=HFT.out sb e;have:=H1.out.slt;omega
   obtain ⟨z1,z2,z3,z4,z5,z6,z7⟩:=uY0 HE.out;rw [hD];refine ⟨dD0.yes rfl,hO.mono fun j hj=>Or.inl hj,{ x with eb:=eb,k:=k },⟨?_,⟨H1.out.slt.1,Nat.le_trans H1.out.slt.2 hO.size⟩,fun h0=>?_,fun M e=>?_⟩⟩
   ·have e1:dsV { x with eb:=eb,k:=k } { H with mkt:=some (newM H.rs H.st H.dy H.pr H.ti H.mo) }=(dsV x H).setIfInBounds 6 (.pointer (some ⟨eb,0,none⟩)):=by
     unfold dsV;rfl
    rw [e1];exact hbox
   ·obtain ⟨tb,g1,g2,g3,g4,_,cs,f,g6⟩:=H1.out.rows h0;have hlt:=lt_of_block g6;have hne:¬tb=sb:=fun e=>by have:=H1.out.slt;omega
    refine ⟨tb,g1,bR0 (g2.below HB2.out lR7) hO0 hne,g3,g4,fun _ e=>?_,cs,f,aE0 g6 hO hne⟩;have:=HFT.out tb e;omega
   ·cases e;refine ⟨HEG2.out.outT hO0 (fun j hj=>fun e=>hsb (e ▸ hj)) ⟨?_,?_⟩,⟨_,_,(gG1 z1 hr6 z5 z6 z7 z3 z4).hT,⟨⟨fun o ho=>(by cases ho),fun o ho=>(by cases ho)⟩,LotI.start⟩⟩,fun j hj=>Nat.le_trans H1.out.slt.2 (HFT.out j hj),by rw [hk0];exact Nat.zero_le _,?_⟩
    ·rw [World.cell?_setCell_other (h:=fun e=>by injection e with _ e;cases e)];exact HEG2.out.tab.1
    ·intro j u hj;have hu:=HEG2.out.tab.2 j u hj
     by_cases e:(⟨sb,6,none⟩:Addr)=⟨k.cb,0+j,none⟩
     ·rw [←e,c6] at hu;obtain ⟨z,hz⟩:=sH0 _ j u hj;rw [hz] at hu;cases hu
     ·rw [World.cell?_setCell_other (h:=e)];exact hu
    ·show (0:Int)≤_;omega
  ·exact absurd rfl h0
 ·have HE:Hid ((newE H.rs H.st H.dy H.pr H.ti H.mo).1≠0):=hE;have HB1:Hid (Below w.heap.size w w1):=hb;have HER:Hid _:=he;have HV1:Hid (DsVars w1):=HV.out.below hb (Nat.le_trans hB H1.out.slt.2);clear hE hb he c0 c1 c2 c3 c4 c5;go_wp2_with fail;refine (gQ1 err _ _ w1 HV1.out.et HER.out (Or.inr HE.out)).mono ?_;rintro e w2 ⟨hc,hb2⟩;have HB2:Hid (Below w.heap.size w w2):=aC0 HB1.out hb2;rcases hc with ⟨h0,_⟩ | ⟨h0,rfl⟩
  ·exact absurd h0 HE.out
  ·clear hb2;go_wp2_with fail;refine ⟨rfl,?_⟩
   have hD:aX0 3 l H=(((newE H.rs H.st H.dy H.pr H.ti H.mo).1,[]),H):=by
    show (if _ then _ else _)=_;rw [if_neg HE.out]
   rw [hD];exact H1.out.stay HB2.out (Or.inr ⟨HE.out,rfl⟩)
theorem gU1 (p:Addr) (w:World):
  CallsD Tryz.prog 41 #[.pointer (some p)] .returning w fun e u' w'=>e=.returned (.tuple #[])∧u'=.returning∧w'=w:=by
 have q0:∀(w:World),(binOp .neq 20 .nilIface .nilIface).run Tryz.prog w=.ok (.bool false) w:=fun _=>by kernel_rfl
 refine callsD_of_wpS Tryz.func41 rfl fun c₀ cs hu=>?_
 apply wpS_seq;apply wpS_region;simp [wpOpsS,go_sem,recoverD,hu,Tryz.ntmps41,Exit.thenS];apply wpS_seq;apply wpS_region;simp [wpOpsS,go_sem,q0,Exit.thenS];refine wpS_cond (t:=false) (by simp [Act.eval,Array.replicate]) ?_;simp only [Bool.false_eq_true,if_false];refine wpS_of_wp (wp_skip ?_);cases c₀
 simp_all [bodyPostS,results,Tryz.results41]
set_option maxHeartbeats 1000000 in
theorem pU1 (p:Addr) (m:Int) (t:ByteArray) (older:List PanicEntry) (w:World) (hc:w.cell? p=some (.string t)) (hz:w.frozen? p=false) (hn:in64 m) (ht:eZ0 w):
  CallsD Tryz.prog 41 #[.pointer (some p)] (.panicking ({ v:=.iface 26 (.int .i64 m),recovered:=false }::older)) w fun e u' w'=>
   e=.returned (.tuple #[])∧u'=.panicking ({ v:=.iface 26 (.int .i64 m),recovered:=true }::older)∧∃w1,Below w.heap.size w w1∧w'=w1.setCell p (.string (baOf (errT m))):=by
 have q1:∀(w:World) (t:TypeId) (p:Value),(binOp .neq 20 (.iface t p) .nilIface).run Tryz.prog w=.ok (.bool true) w:=fun _ _ _=>by kernel_rfl
 refine callsD_of_wpS Tryz.func41 rfl fun c₀ cs hu=>?_
 apply wpS_seq;apply wpS_region;simp [wpOpsS,go_sem,recoverD,hu,Tryz.ntmps41,Exit.thenS];apply wpS_seq;apply wpS_region;simp [wpOpsS,go_sem,q1,Exit.thenS];refine wpS_cond (t:=true) (by simp [Act.eval,Array.replicate]) ?_;simp only [if_true];refine wpS_of_wp ?_;have hrep:Array.replicate 6 undef=#[undef,undef,undef,undef,undef,undef]:=rfl;simp [hrep];clear hrep;go_wp2_with fail;refine (pO1 m w hn ht).mono ?_;rintro e w1 ⟨rfl,hb⟩;have hc1:=(hb.cell (World.block_lt_of_cell? w _ hc)).trans hc;have hz1:w1.frozen? p=false:=(hb.frozen (World.block_lt_of_cell? w _ hc)).trans hz;have HB:Hid (Below w.heap.size w w1):=hb;clear hb hc hz;go_wp2_with fail;cases c₀
 simp_all [bodyPostS,results,Tryz.results41]
 exact ⟨_,HB.out,rfl⟩
theorem iP0 (p:Nat→Bool) (s:ByteArray):∀(f pos:Nat) (st:Option Nat) (acc:List (Nat×Nat)),(Lib.spansFromP p s f pos st acc).1.length≤acc.length+f
 | 0,_,_,acc=>lR7
 | f+1,pos,st,acc=>by
  unfold Lib.spansFromP;split
  ·split
   ·cases st with
    | some a=>
     have:=iP0 p s f (pos+(Utf8.decode s pos).2) none (acc++[(a,pos)]);simp only [List.length_append,List.length_cons,List.length_nil] at this;show (Lib.spansFromP p s f (pos+(Utf8.decode s pos).2) none (acc++[(a,pos)])).1.length≤_;omega
    | none=>
     have:=iP0 p s f (pos+(Utf8.decode s pos).2) none acc;show (Lib.spansFromP p s f (pos+(Utf8.decode s pos).2) none acc).1.length≤_;omega
   ·cases st with
    | some a=>
     have:=iP0 p s f (pos+(Utf8.decode s pos).2) (some a) acc;show (Lib.spansFromP p s f (pos+(Utf8.decode s pos).2) (some a) acc).1.length≤_;omega
    | none=>
     have:=iP0 p s f (pos+(Utf8.decode s pos).2) (some pos) acc;show (Lib.spansFromP p s f (pos+(Utf8.decode s pos).2) (some pos) acc).1.length≤_;omega
  ·exact Nat.le_add_right _ _
theorem gV1 (s:ByteArray) (r:List (Nat×Nat)×Option Nat):(Lib.closeSpans s r).length≤r.1.length+1:=by
 unfold Lib.closeSpans;split <;> simp
theorem uZ0 (s:ByteArray):(fY0 s).length≤s.size+1:=by
 unfold fY0 Lib.goFieldsP Lib.spansOfP;rw [List.length_map];have h1:=gV1 s (Lib.spansFromP (fun r=>r == 32) s s.size 0 none []);have h2:=iP0 (fun r=>r == 32) s s.size 0 none [];simp only [List.length_nil,Nat.zero_add] at h2;omega
theorem bO1 {s t:ByteArray} (h:t∈fY0 s):t.size≤s.size:=by
 unfold fY0 Lib.goFieldsP at h;obtain ⟨x,_,rfl⟩:=List.mem_map.1 h;rw [ByteArray.size_extract];omega
theorem pV1 (r:Int) (w:World):Calls Tryz.prog 43 #[.int .i32 r] w fun e w'=>e=.returned (.bool (r == 32))∧w'=w:=by
 go_enter Tryz.func43,Tryz.ntmps43;go_wp2;go_ret;exact ⟨rfl,rfl⟩
set_option maxRecDepth 100000 in
theorem sI0 (args:Array Value) (w:World):(callFunc 43 args).run Tryz.prog w=.ok (.enter 43 args) w:=by rfl
theorem pW1 (s:ByteArray) (w:World) (hs:s.size≤1000000):
  Calls Tryz.prog 42 #[.string s,.func (.func 43) #[] #[]] w fun e w'=>∃A,e=.returned (.slice (some ⟨A,0,none⟩) (fY0 s).length (fY0 s).length)∧w.heap.size≤A∧
   w'.ownsRow w.heap.size 9 1 (.slice (some ⟨A,0,none⟩) (fY0 s).length (fY0 s).length) (fY0 s).length ((fY0 s).map Value.string)∧Below w.heap.size w w':=
 Any.strings_FieldsFunc_runes zL0 43 #[] sI0 (fun r=>r == 32) s w (by omega)
  (fun W x hx _=>(pV1 (x:Int) W).mono fun e w' h=>⟨by
   rw [h.1]
   have:((x:Int) == 32)=(x == 32):=by
    by_cases e:x=32
    ·rw [e];rfl
    ·rw [beq_eq_false_iff_ne.2 e];exact beq_eq_false_iff_ne.2 (by omega)
   rw [this],0,h.2⟩) (by kernel_rfl) (by kernel_rfl)
theorem gW1 {M:Mkt} (hL:LOk M.L) (hl:M.L.length≤100) (hla:1≤M.la∧M.la≤1000000):in64 (dQ0 M).price∧in64 (dQ0 M).qty∧in64 (dQ0 M).sur:=by
 have z:in64 0:=bC0 (by decide);unfold dQ0;split
 ·unfold aG0
  by_cases hq:0<(aJ0 (aM0 M.L M.la) M.la).qty
  ·have h1:=fF0 hL hla hq;obtain ⟨h2,h3⟩:=qI0 M.la hq;have a1:=vZ0 (aJ0 (aM0 M.L M.la) M.la).price M.L;have a2:=wA0 (aJ0 (aM0 M.L M.la) M.la).price M.L;refine ⟨bC0 (by omega),bC0 ?_,bC0 ?_⟩
   ·rw [h2];omega
   ·rw [h3];omega
  ·have h1:=lP0 (aM0 M.L M.la) M.la
   have h2:dA0 (aM0 M.L M.la)<1:=by
    by_cases e:dA0 (aM0 M.L M.la)<1
    ·exact e
    ·rw [if_neg e] at h1;omega
   have h3:aJ0 (aM0 M.L M.la) M.la=⟨0,0,0⟩:=if_pos h2;rw [h3];exact ⟨z,z,z⟩
 ·exact ⟨z,z,z⟩
section
variable {w w':World} {lo sb n:Nat} {x:DsK} {H:DsS} {M:Mkt} {la:Option Addr} {l:List Int}
theorem DsIs.mkt (h:DsIs w lo sb x H n) (hM:H.mkt=some M):w.cell? ⟨sb,6,none⟩=some (.pointer (some ⟨x.eb,0,none⟩)):=by
 have:=h.ptr;rw [hM] at this;exact this
theorem DsIs.asks (h:DsIs w lo sb x H n) (hM:H.mkt=some M) (hb:Below w.heap.size w w') {r:Int×List UInt8} {e:Ending} (he:dD0 r e):cY0 w w' lo sb n (r,{ H with mkt:=some M }) e:=by
 have:({ H with mkt:=some M }:DsS)=H:=by cases H;cases hM;rfl
 rw [this];exact h.stay hb he
theorem dE0 {d:Nat} (hd:4≤d∧d≤14) (l:List Int) (hM:H.mkt=some M):aX0 d l H=((dM0 d l M).1,{ H with mkt:=some (dM0 d l M).2 }):=by
 obtain ⟨h1,h2⟩:=hd
 match d,h1,h2 with
 | 4,_,_=>simp only [aX0,hM]
 | 5,_,_=>simp only [aX0,hM]
 | 6,_,_=>simp only [aX0,hM]
 | 7,_,_=>simp only [aX0,hM]
 | 8,_,_=>simp only [aX0,hM]
 | 9,_,_=>simp only [aX0,hM]
 | 10,_,_=>simp only [aX0,hM]
 | 11,_,_=>simp only [aX0,hM]
 | 12,_,_=>simp only [aX0,hM]
 | 13,_,_=>simp only [aX0,hM]
 | 14,_,_=>simp only [aX0,hM]
end
set_option maxRecDepth 8000 in
set_option maxHeartbeats 1000000 in
theorem pX1 (la:Option Addr) (cl:Nat) (l:List Int) (lo sb n:Nat) (x:DsK) (H:DsS) (M:Mkt) (w:World) (h:DsIs w lo sb x H n) (hM:H.mkt=some M):
  Calls Tryz.prog 29 #[.pointer (some ⟨sb,0,none⟩),.slice la l.length cl] w fun e w'=>cY0 w w' lo sb n (aX0 10 l H) e:=by
 have HD:Hid (aX0 10 l H=((dM0 10 l M).1,{ H with mkt:=some (dM0 10 l M).2 })):=dE0 (by decide) l hM;have H1:Hid (DsIs w lo sb x H n):=h;have HM:Hid (H.mkt=some M):=hM;have c6:=h.mkt hM;have HE:Hid (Eg w x.eb x.k M):=(h.eg M hM).1;clear h hM
 have fin:∀t,phT M.ph=t→cY0 w w lo sb n (aX0 10 l H) (.returned (.string (baOf t))):=fun t ht=>by
  rw [HD.out];refine H1.out.asks HM.out (Below.refl _ _) ?_;show dD0 (0,phT M.ph) _;rw [ht];exact dD0.yes rfl
 have HFIN:Hid _:=fin;clear fin;go_enter Tryz.func29,Tryz.ntmps29;go_wp2_with fail;refine (oK1 x.eb x.k M w HE.out).mono ?_;rintro e w1 ⟨rfl,rfl⟩
 by_cases h1:M.ph=1
 ·have e1:(M.ph == 1)=true:=beq_iff_eq.2 h1;have HP:Hid (phT M.ph=[112,114,101,111,112,101,110]):=by show _=_;unfold phT;rw [if_pos h1]
  clear h1;go_wp2_with fail;go_ret;exact HFIN.out _ HP.out
 have e1:(M.ph == 1)=false:=beq_eq_false_iff_ne.2 h1
 by_cases h2:M.ph=2
 ·have e2:(M.ph == 2)=true:=beq_iff_eq.2 h2;have HP:Hid (phT M.ph=[111,112,101,110,105,110,103]):=by show _=_;unfold phT;rw [if_neg h1,if_pos h2]
  clear h1 h2;go_wp2_with fail;go_ret;exact HFIN.out _ HP.out
 have e2:(M.ph == 2)=false:=beq_eq_false_iff_ne.2 h2
 by_cases h3:M.ph=3
 ·have e3:(M.ph == 3)=true:=beq_iff_eq.2 h3;have HP:Hid (phT M.ph=[116,114,97,100,105,110,103]):=by show _=_;unfold phT;rw [if_neg h1,if_neg h2,if_pos h3]
  clear h1 h2 h3;go_wp2_with fail;go_ret;exact HFIN.out _ HP.out
 have e3:(M.ph == 3)=false:=beq_eq_false_iff_ne.2 h3
 by_cases h4:M.ph=4
 ·have e4:(M.ph == 4)=true:=beq_iff_eq.2 h4;have HP:Hid (phT M.ph=[118,111,108,97,116,105,108,105,116,121]):=by show _=_;unfold phT;rw [if_neg h1,if_neg h2,if_neg h3,if_pos h4]
  clear h1 h2 h3 h4;go_wp2_with fail;go_ret;exact HFIN.out _ HP.out
 have e4:(M.ph == 4)=false:=beq_eq_false_iff_ne.2 h4
 by_cases h5:M.ph=5
 ·have e5:(M.ph == 5)=true:=beq_iff_eq.2 h5;have HP:Hid (phT M.ph=[99,108,111,115,105,110,103]):=by show _=_;unfold phT;rw [if_neg h1,if_neg h2,if_neg h3,if_neg h4,if_pos h5]
  clear h1 h2 h3 h4 h5;go_wp2_with fail;go_ret;exact HFIN.out _ HP.out
 have e5:(M.ph == 5)=false:=beq_eq_false_iff_ne.2 h5
 by_cases h6:M.ph=6
 ·have e6:(M.ph == 6)=true:=beq_iff_eq.2 h6;have HP:Hid (phT M.ph=[104,97,108,116]):=by show _=_;unfold phT;rw [if_neg h1,if_neg h2,if_neg h3,if_neg h4,if_neg h5,if_pos h6]
  clear h1 h2 h3 h4 h5 h6;go_wp2_with fail;go_ret;exact HFIN.out _ HP.out
 have e6:(M.ph == 6)=false:=beq_eq_false_iff_ne.2 h6;have HP:Hid (phT M.ph=[101,110,100,101,100]):=by show _=_;unfold phT;rw [if_neg h1,if_neg h2,if_neg h3,if_neg h4,if_neg h5,if_neg h6]
 clear h1 h2 h3 h4 h5 h6;go_wp2_with fail;go_ret;exact HFIN.out _ HP.out
set_option maxRecDepth 8000 in
set_option maxHeartbeats 1000000 in
theorem pY1 (la:Option Addr) (cl:Nat) (l:List Int) (lo sb n:Nat) (x:DsK) (H:DsS) (M:Mkt) (w:World) (h:DsIs w lo sb x H n) (hM:H.mkt=some M) (ht:eZ0 w):
  Calls Tryz.prog 30 #[.pointer (some ⟨sb,0,none⟩),.slice la l.length cl] w fun e w'=>cY0 w w' lo sb n (aX0 11 l H) e:=by
 have HD:Hid (aX0 11 l H=((dM0 11 l M).1,{ H with mkt:=some (dM0 11 l M).2 })):=dE0 (by decide) l hM;have H1:Hid (DsIs w lo sb x H n):=h;have HM:Hid (H.mkt=some M):=hM;have HT:Hid (eZ0 w):=ht;have c6:=h.mkt hM;obtain ⟨hE,⟨lots,side,hI,_⟩,_⟩:=h.eg M hM;have HE:Hid (Eg w x.eb x.k M):=hE;have hla:=hI.la;obtain ⟨b1,b2,b3⟩:=gW1 hE.lok hE.few100 hla;clear h hM ht hE hI;go_enter Tryz.func30,Tryz.ntmps30;go_wp2_with fail;refine (wY0 x.eb x.k M w HE.out hla).mono ?_;rintro e w1 ⟨rfl,hb1⟩;have HB1:Hid (Below w.heap.size w w1):=hb1;have HQ:Hid (rowT [(dQ0 M).price,(dQ0 M).qty,(dQ0 M).sur]=(dM0 11 l M).1.2):=rfl;unfold kZ1;generalize dQ0 M=q at b1 b2 b3 HQ ⊢;clear hb1 hla;go_upto_region 2 with fail;have hX:=heap_alloc_new w1 (.cells #[.int .i64 q.price,.int .i64 q.qty,.int .i64 q.sur] 107);have HB2:Hid (Below w.heap.size w (w1.alloc (.cells #[.int .i64 q.price,.int .i64 q.qty,.int .i64 q.sur] 107))):=aC0 HB1.out (bel1 w1 _);generalize w1.alloc (.cells #[.int .i64 q.price,.int .i64 q.qty,.int .i64 q.sur] 107)=W at hX HB2 ⊢;have y0:=aA0 (j:=0) hX rfl;have y1:=aA0 (j:=1) hX rfl;have y2:=aA0 (j:=2) hX rfl;clear hX;go_wp2_with fail;have hbL:=bel1 W (.cells #[.int .i64 q.price,.int .i64 q.qty,.int .i64 q.sur] 3)
 refine (aQ1 W.heap.size 0 3 [q.price,q.qty,q.sur] _ (hG0 W [q.price,q.qty,q.sur] 3) (fun z hz=>by
  simp only [List.mem_cons,List.not_mem_nil,or_false] at hz;rcases hz with rfl | rfl | rfl
  ·exact b1
  ·exact b2
  ·exact b3) (by simp) (by simp) ((HT.out.below HB2.out).below hbL)).mono ?_
 rintro e w3 ⟨rfl,hb3⟩;have HB3:Hid (Below w.heap.size w w3):=aC0 HB2.out (aC0 hbL hb3);clear hbL hb3 y0 y1 y2;go_wp2_with fail;go_ret;rw [HD.out];refine H1.out.asks HM.out HB3.out ?_;exact Or.inl ⟨rfl,by rw [HQ.out];rfl⟩
set_option maxRecDepth 8000 in
set_option maxHeartbeats 1000000 in
theorem sJ1 (la:Option Addr) (cl:Nat) (l:List Int) (lo sb n:Nat) (x:DsK) (H:DsS) (M:Mkt) (w:World) (h:DsIs w lo sb x H n) (hM:H.mkt=some M) (ht:eZ0 w):
  Calls Tryz.prog 31 #[.pointer (some ⟨sb,0,none⟩),.slice la l.length cl] w fun e w'=>cY0 w w' lo sb n (aX0 12 l H) e:=by
 have HD:Hid (aX0 12 l H=((dM0 12 l M).1,{ H with mkt:=some (dM0 12 l M).2 })):=dE0 (by decide) l hM;have H1:Hid (DsIs w lo sb x H n):=h;have HM:Hid (H.mkt=some M):=hM;have HT:Hid (eZ0 w):=ht;have c6:=h.mkt hM;obtain ⟨hE,⟨lots,side,hI,_⟩,_⟩:=h.eg M hM;have HE:Hid (Eg w x.eb x.k M):=hE;have b1:in64 M.an:=bC0 (by have:=hI.an;omega);have b2:in64 M.la:=bC0 (by have:=hI.la;omega);clear h hM ht hE hI;go_enter Tryz.func31,Tryz.ntmps31;go_wp2_with fail;refine (rA1 x.eb x.k M w HE.out).mono ?_;rintro e w1 ⟨rfl,hb1⟩;have HB1:Hid (Below w.heap.size w w1):=hb1;clear hb1;go_wp2_with fail;have hbL:=bel1 w1 (.cells #[.int .i64 M.an,.int .i64 M.la] 3)
 refine (aQ1 w1.heap.size 0 2 [M.an,M.la] _ (hG0 w1 [M.an,M.la] 3) (fun z hz=>by
  simp only [List.mem_cons,List.not_mem_nil,or_false] at hz;rcases hz with rfl | rfl
  ·exact b1
  ·exact b2) (by simp) (by simp) ((HT.out.below HB1.out).below hbL)).mono ?_
 rintro e w3 ⟨rfl,hb3⟩;have HB3:Hid (Below w.heap.size w w3):=aC0 HB1.out (aC0 hbL hb3);clear hbL hb3;go_wp2_with fail;go_ret;rw [HD.out];exact H1.out.asks HM.out HB3.out (dD0.yes rfl)
set_option maxRecDepth 8000 in
set_option maxHeartbeats 1000000 in
theorem lN1 (la:Option Addr) (cl:Nat) (l:List Int) (lo sb n:Nat) (x:DsK) (H:DsS) (M:Mkt) (w:World) (h:DsIs w lo sb x H n) (hM:H.mkt=some M) (ht:eZ0 w):
  Calls Tryz.prog 33 #[.pointer (some ⟨sb,0,none⟩),.slice la l.length cl] w fun e w'=>cY0 w w' lo sb n (aX0 14 l H) e:=by
 have HD:Hid (aX0 14 l H=((dM0 14 l M).1,{ H with mkt:=some (dM0 14 l M).2 })):=dE0 (by decide) l hM;have H1:Hid (DsIs w lo sb x H n):=h;have HM:Hid (H.mkt=some M):=hM;have HT:Hid (eZ0 w):=ht;have c6:=h.mkt hM;obtain ⟨hE,⟨lots,side,hI,hN⟩,_⟩:=h.eg M hM;have HE:Hid (Eg w x.eb x.k M):=hE;have HO:Hid (∀o∈M.P,jG0 o):=zC0 hI hN;have hP:M.P.length≤1000:=by have:=hI.few;omega
 clear h hM ht hE hI hN;go_enter Tryz.func33,Tryz.ntmps33;go_wp2_with fail;refine (lD1 x.eb x.k M w HE.out (by omega)).mono ?_;rintro e w1 ⟨v,rfl,hr,hb1⟩;have HB1:Hid (Below w.heap.size w w1):=hb1;obtain ⟨a,cap,rfl,hin⟩:=bX0.of_row hr;have HIN:Hid (bX0 w1 a M.P):=hin;clear hb1 hr hin;go_wp2_with fail;refine (zG0 a cap M.P w1 HIN.out HO.out hP (HT.out.below HB1.out)).mono ?_;rintro e w3 ⟨rfl,hb3⟩;have HB3:Hid (Below w.heap.size w w3):=aC0 HB1.out hb3;clear hb3;go_wp2_with fail;go_ret;rw [HD.out];exact H1.out.asks HM.out HB3.out (dD0.yes rfl)
end Go.Proofs.YtaelphbianmckaaGreatDoor
