/- DeskPieces: a part of the proof, packed (the readable form: the templates). -/
import Derived.Test.YtaelphbianmckaaGreatDoorQA
import Derived.Test.YtaelphbianmckaaGreatDoorQS
import Derived.Laws.EntriesVeiled
namespace Go.Proofs.YtaelphbianmckaaGreatDoor
open Go.RowKit Go.Shelf
set_option maxRecDepth 8000 in
set_option maxHeartbeats 1000000 in
theorem bP1 (bb:Nat) (w:World) (side:Int) (hss:(side == 1 || side == 2)=false):
  Calls Tryz.prog 133 #[.pointer (some ⟨bb,0,none⟩),.int .i64 side] w fun e W'=>e=.returned (.tuple #[.slice none 0 0,.iface 26 (.int .i64 1)])∧Below w.heap.size w W':=by
 have HS:Hid ((side == 1 || side == 2)=false):=hss;clear hss;go_enter Tryz.func133,Tryz.ntmps133;go_wp2_with fail;refine (iU0 side _).mono ?_;rintro e w1 ⟨rfl,hw⟩;replace hw:=hw.symm;subst hw;rw [HS.out];go_wp2_with fail;go_ret2;exact ⟨rfl,Below.refl _ _⟩
set_option maxRecDepth 8000 in
set_option maxHeartbeats 1000000 in
theorem gX1 (eb:Nat) (k:EgK) (M:Mkt) (w:World) (h:Eg w eb k M) (side:Int) (hs:side≠1∧side≠2):
  Calls Tryz.prog 78 #[.pointer (some ⟨eb,0,none⟩),.int .i64 side] w fun e w'=>e=.returned (.tuple #[.slice none 0 0,.iface 26 (.int .i64 1)])∧Below w.heap.size w w':=by
 have c2:w.cell? ⟨eb,2,none⟩=some (.pointer (some ⟨k.bb,0,none⟩)):=aA0 (j:=2) h.box rfl;have HS:Hid ((side == 1 || side == 2)=false):=by show _=_;simp [hs]
 clear h hs;go_enter Tryz.func78,Tryz.ntmps78;go_wp2_with fail;refine (bP1 k.bb w side HS.out).mono ?_;rintro e w1 ⟨rfl,hb⟩;have HB:Hid (Below w.heap.size w w1):=hb;clear hb;go_wp2_with fail;go_ret2;exact ⟨rfl,HB.out⟩
set_option maxRecDepth 8000 in
set_option maxHeartbeats 2000000 in
theorem lO1 (la:Option Addr) (cl:Nat) (l:List Int) (lo sb n:Nat) (x:DsK) (H:DsS) (M:Mkt) (w:World) (h:DsIs w lo sb x H n) (ha:ArgIs w sb la l) (hl:l.length=1) (hM:H.mkt=some M) (hv:DsVars w) (hB:12≤lo):
  Calls Tryz.prog 32 #[.pointer (some ⟨sb,0,none⟩),.slice la l.length cl] w fun e w'=>cY0 w w' lo sb n (aX0 13 l H) e:=by
 have HD:Hid (aX0 13 l H=((dM0 13 l M).1,{ H with mkt:=some (dM0 13 l M).2 })):=dE0 (by decide) l hM;have H1:Hid (DsIs w lo sb x H n):=h;have HM:Hid (H.mkt=some M):=hM;have HV:Hid (DsVars w):=hv;obtain ⟨g,rfl,hg,d0⟩:=ha.cells 0 (by omega);have c6:=h.mkt hM;obtain ⟨hE,⟨lots,side,hI,hN⟩,_⟩:=h.eg M hM;have HE:Hid (Eg w x.eb x.k M):=hE;have HO:Hid (∀o∈M.L,jG0 o):=zB0 hI hE.lok hN;have hL:M.L.length≤100:=hE.few100;have HSS:Hid (∀V,Below w.heap.size w V→(fun w':World=>w'.cell? ⟨sb,6,none⟩=some (.pointer (some ⟨x.eb,0,none⟩))∧w'.cell? ⟨g,0,none⟩=some (.int .i64 (nI l 0))) V):=fun V hV=>⟨bB0 hV c6,bB0 hV d0⟩
 clear h ha hM hv hE hI hN c6 d0 hg;rw [hl];go_enter Tryz.func32,Tryz.ntmps32;go_upto_region 1 with fail;refine eA0 (fun _=>fun w':World=>w'.cell? ⟨sb,6,none⟩=some (.pointer (some ⟨x.eb,0,none⟩))∧w'.cell? ⟨g,0,none⟩=some (.int .i64 (nI l 0))) (fun _ i=>i == 7) (by kernel_rfl) (fun _=>HSS.out _ (Below.refl _ _).drew) (fun hHeld=>?_);have bz:Below w.heap.size w w.drew:=(Below.refl _ _).drew;generalize w.drew=wz at bz hHeld ⊢;refine tkM7 0 (i:=0) (v:=?_) rfl (by kernel_rfl) (fun _ _ _ h=>h) (by rfl) ?_ (hHeld 0) ?_;rotate_left
 ·intro w hSw;try simp only [lateS_zero] at hSw
  try dsimp only at hSw
  go_simp;try rfl
 refine tkM7 0 (i:=1) (v:=?_) rfl (by kernel_rfl) (fun _ _ _ h=>h) (by rfl) ?_ (hHeld 0) ?_;rotate_left
 ·intro w hSw;try simp only [lateS_zero] at hSw
  try dsimp only at hSw
  go_simp;try rfl
 refine tkM7 0 (i:=2) (v:=?_) rfl (by kernel_rfl) (fun _ _ _ h=>h) (by rfl) ?_ (hHeld 0) ?_;rotate_left
 ·intro w hSw;try simp only [lateS_zero] at hSw
  try dsimp only at hSw
  go_simp;try rfl
 refine tkM7 0 (i:=3) (v:=?_) rfl (by kernel_rfl) (fun _ _ _ h=>h) (by rfl) ?_ (hHeld 0) ?_;rotate_left
 ·intro w hSw;try simp only [lateS_zero] at hSw
  try dsimp only at hSw
  go_simp;try rfl
 refine tkM7 0 (i:=4) (v:=?_) rfl (by kernel_rfl) (fun _ _ _ h=>h) (by rfl) ?_ (hHeld 0) ?_;rotate_left
 ·intro w hSw;try simp only [lateS_zero] at hSw
  try dsimp only at hSw
  go_simp;try rfl
 refine tkM7 0 (i:=5) (v:=?_) rfl (by kernel_rfl) (fun _ _ _ h=>h) (by rfl) ?_ (hHeld 0) ?_;rotate_left
 ·intro w hSw;try simp only [lateS_zero] at hSw
  try dsimp only at hSw
  go_simp;try rfl
 refine tkM7 0 (i:=6) (v:=?_) rfl (by kernel_rfl) (fun _ _ _ h=>h) (by rfl) ?_ (hHeld 0) ?_;rotate_left
 ·intro w hSw;try simp only [lateS_zero] at hSw
  try dsimp only at hSw
  go_simp;try rfl
 refine hH0 (i:=7) (by kernel_rfl) rfl (fun K hK=>?_);go_simp
 by_cases hs:nI l 0=1∨nI l 0=2
 ·have hcall:Calls Tryz.prog 78 #[.pointer (some ⟨x.eb,0,none⟩),.int .i64 (nI l 0)] wz fun e w'=>∃v,e=.returned (.tuple #[v,.nilIface])∧w'.ownsRow wz.heap.size 92 5 v (aK0 (nI l 0) M.L).length (oV (aK0 (nI l 0) M.L))∧Below wz.heap.size wz w':=by
   rcases hs with hs | hs
   ·exact mY1 x.eb 0 x.k M wz (HE.out.below bz) (by decide) (nI l 0) (by rw [hs];rfl)
   ·exact mY1 x.eb 1 x.k M wz (HE.out.below bz) (by decide) (nI l 0) (by rw [hs];rfl)
  have HW:Hid ((dM0 13 l M).1=(0,tY0 (aK0 (nI l 0) M.L))):=by show (if nI l 0=1∨nI l 0=2 then ((0:Int),tY0 (aK0 (nI l 0) M.L)) else (1,[]))=_;rw [if_pos hs]
  refine hcall.mono ?_;rintro e w1 ⟨v,rfl,hr,hb1⟩;have HB1:Hid (Below w.heap.size w w1):=aC0 bz hb1;obtain ⟨a,cap,rfl,hin⟩:=bX0.of_row hr;have HIN:Hid (bX0 w1 a (aK0 (nI l 0) M.L)):=hin;have HON:Hid (∀o∈aK0 (nI l 0) M.L,jG0 o):=fun o ho=>HO.out o (aP0.1 ho).1
  have hln:(aK0 (nI l 0) M.L).length≤1000:=by have:=iE0 (nI l 0) M.L;omega
  refine hK.out _ _ (fun _ h=>by cases h) ?_;clear hK K hHeld bz hb1 hr hin hcall hs;generalize aK0 (nI l 0) M.L=S at HIN HON hln HW ⊢;refine puM7 (i:=8) (v:=?_) rfl (by kernel_rfl) (fun _ _ _ h=>h) (by rfl) ?_ ?_;rotate_left
  ·intro w;go_simp;try rfl
  refine puM7 (i:=9) (v:=?_) rfl (by kernel_rfl) (fun _ _ _ h=>h) (by rfl) ?_ ?_;rotate_left
  ·intro w;go_simp;try rfl
  refine puM7 (i:=10) (v:=?_) rfl (by kernel_rfl) (fun _ _ _ h=>h) (by rfl) ?_ ?_;rotate_left
  ·intro w;go_simp;try rfl
  refine puM7 (i:=11) (v:=?_) rfl (by kernel_rfl) (fun _ _ _ h=>h) (by rfl) ?_ ?_;rotate_left
  ·intro w;go_simp;try rfl
  refine puM7 (i:=12) (v:=?_) rfl (by kernel_rfl) (fun _ _ _ h=>h) (by rfl) ?_ ?_;rotate_left
  ·intro w;go_simp;try rfl
  refine gB0 (by kernel_rfl) ?_ _;have HVR:Hid (DsVars w1):=HV.out.below HB1.out (Nat.le_trans hB H1.out.slt.2);go_wp2_with fail;refine (eQ0 .nilIface 0 w1 HVR.out.et (Or.inl ⟨rfl,rfl⟩)).mono ?_;rintro e w2 ⟨hc,hb2⟩;have HB2:Hid (Below w.heap.size w w2):=aC0 HB1.out hb2;have HT2:Hid (eZ0 w2):=HVR.out.tab.below hb2;have HIN2:Hid (bX0 w2 a S):=HIN.out.below hb2;rcases hc with ⟨_,rfl⟩ | ⟨h0,_⟩
  ·clear hb2;go_wp2_with fail;refine (zG0 a cap S w2 HIN2.out HON.out hln HT2.out).mono ?_;rintro e w3 ⟨rfl,hb3⟩;have HB3:Hid (Below w.heap.size w w3):=aC0 HB2.out hb3;clear hb3;go_wp2_with fail;go_ret;rw [HD.out];refine H1.out.asks HM.out HB3.out ?_;rw [HW.out];exact dD0.yes rfl
  ·exact absurd rfl h0
 ·have HW:Hid ((dM0 13 l M).1=(1,[])):=by show (if nI l 0=1∨nI l 0=2 then ((0:Int),tY0 (aK0 (nI l 0) M.L)) else (1,[]))=_;rw [if_neg hs]
  refine (gX1 x.eb x.k M wz (HE.out.below bz) (nI l 0) (by omega)).mono ?_;rintro e w1 ⟨rfl,hb1⟩;have HB1:Hid (Below w.heap.size w w1):=aC0 bz hb1;refine hK.out _ _ (fun _ h=>by cases h) ?_;clear hK K hHeld bz hb1 hs;refine puM7 (i:=8) (v:=?_) rfl (by kernel_rfl) (fun _ _ _ h=>h) (by rfl) ?_ ?_;rotate_left
  ·intro w;go_simp;try rfl
  refine puM7 (i:=9) (v:=?_) rfl (by kernel_rfl) (fun _ _ _ h=>h) (by rfl) ?_ ?_;rotate_left
  ·intro w;go_simp;try rfl
  refine puM7 (i:=10) (v:=?_) rfl (by kernel_rfl) (fun _ _ _ h=>h) (by rfl) ?_ ?_;rotate_left
  ·intro w;go_simp;try rfl
  refine puM7 (i:=11) (v:=?_) rfl (by kernel_rfl) (fun _ _ _ h=>h) (by rfl) ?_ ?_;rotate_left
  ·intro w;go_simp;try rfl
  refine puM7 (i:=12) (v:=?_) rfl (by kernel_rfl) (fun _ _ _ h=>h) (by rfl) ?_ ?_;rotate_left
  ·intro w;go_simp;try rfl
  refine gB0 (by kernel_rfl) ?_ _;have HVR:Hid (DsVars w1):=HV.out.below HB1.out (Nat.le_trans hB H1.out.slt.2);go_wp2_with fail;refine (eQ0 (.iface 26 (.int .i64 1)) 1 w1 HVR.out.et (Or.inr ⟨rfl,by decide⟩)).mono ?_;rintro e w2 ⟨hc,hb2⟩;have HB2:Hid (Below w.heap.size w w2):=aC0 HB1.out hb2;rcases hc with ⟨h0,_⟩ | ⟨_,rfl⟩
  ·exact absurd h0 (by decide)
  ·clear hb2;go_wp2_with fail;refine ⟨rfl,?_⟩;rw [HD.out];refine H1.out.asks HM.out HB2.out ?_;rw [HW.out];exact Or.inr ⟨by decide,rfl⟩
set_option maxRecDepth 8000 in
set_option maxHeartbeats 2000000 in
theorem sK1 (la:Option Addr) (cl:Nat) (l:List Int) (lo sb n:Nat) (x:DsK) (H:DsS) (M:Mkt) (w:World) (h:DsIs w lo sb x H n) (hM:H.mkt=some M) (hv:DsVars w) (hB:12≤lo):
  Calls Tryz.prog 27 #[.pointer (some ⟨sb,0,none⟩),.slice la l.length cl] w fun e w'=>cY0 w w' lo sb n (aX0 8 l H) e:=by
 have HD:Hid (aX0 8 l H=((dM0 8 l M).1,{ H with mkt:=some (dM0 8 l M).2 })):=dE0 (by decide) l hM;have H1:Hid (DsIs w lo sb x H n):=h;have HM:Hid (H.mkt=some M):=hM;have HV:Hid (DsVars w):=hv;have c6:=h.mkt hM;obtain ⟨hE,⟨lots,side,hI,hN⟩,hlo,hm,hnow⟩:=h.eg M hM;have HE:Hid (Eg w x.eb x.k M):=hE;have HLO:Hid (∀j,x.k.foot x.eb j→lo≤j):=hlo;have HI:Hid (∃lots side,DayInv (hT0 M) lots side 0 true∧NumI (hT0 M) lots):=⟨lots,side,hI.haltT,⟨hN.kd.halt,hN.lot⟩⟩;have HNW:Hid ((hT0 M).now=M.now):=(bK1 M).2;clear h hM hv hE hI hN hlo;go_enter Tryz.func27,Tryz.ntmps27;go_wp2_with fail;refine (rB1 x.eb x.k M w HE.out).mono ?_;rintro e w1 ⟨err,rfl,he,hg⟩;have HER:Hid (ErrE err (oC0 M)):=he;have HGO:Hid _:=H1.out.go HM.out hg HI.out (by omega) (by rw [HNW.out];omega);have HV1:Hid (DsVars w1):=HV.out.below (hg.2.1.below HLO.out H1.out.slt.2) hB;clear he hg;go_wp2_with fail;refine (eQ0 err (oC0 M) w1 HV1.out.et HER.out).mono ?_;rintro e w2 ⟨hc,hb2⟩;have HGO2:Hid (∃x',DsIs w2 lo sb x' { H with mkt:=some (hT0 M) } (n+1)∧Out (DsW w lo sb) w w2):=⟨_,HGO.out.1.below hb2,bA0 HGO.out.2 (Out.of_below hb2 lR7)⟩;rcases hc with ⟨h0,rfl⟩ | ⟨h0,rfl⟩
 ·clear hb2;go_wp2_with fail;go_ret;rw [HD.out];obtain ⟨x',r1,r2⟩:=HGO2.out;exact ⟨dD0.ok h0 rfl,r2,x',r1⟩
 ·clear hb2;go_wp2_with fail;refine ⟨rfl,?_⟩;rw [HD.out];obtain ⟨x',r1,r2⟩:=HGO2.out;exact ⟨dD0.no h0,r2,x',r1⟩
set_option maxRecDepth 8000 in
set_option maxHeartbeats 2000000 in
theorem sL1 (la:Option Addr) (cl:Nat) (l:List Int) (lo sb n:Nat) (x:DsK) (H:DsS) (M:Mkt) (w:World) (h:DsIs w lo sb x H n) (hM:H.mkt=some M) (hv:DsVars w) (hB:12≤lo) (hn:n≤1900):
  Calls Tryz.prog 28 #[.pointer (some ⟨sb,0,none⟩),.slice la l.length cl] w fun e w'=>cY0 w w' lo sb n (aX0 9 l H) e:=by
 have HD:Hid (aX0 9 l H=((dM0 9 l M).1,{ H with mkt:=some (dM0 9 l M).2 })):=dE0 (by decide) l hM;have H1:Hid (DsIs w lo sb x H n):=h;have HM:Hid (H.mkt=some M):=hM;have HV:Hid (DsVars w):=hv;have c6:=h.mkt hM;obtain ⟨hE,⟨lots,side,hI,hN⟩,hlo,hm,hnow⟩:=h.eg M hM;have HE:Hid (Eg w x.eb x.k M):=hE;have HLO:Hid (∀j,x.k.foot x.eb j→lo≤j):=hlo;have HI:Hid (∃lots side,DayInv (eK0 M) lots side 0 true∧NumI (eK0 M) lots):=⟨lots,side,hI.openT,⟨hN.kd.open_,hN.lot⟩⟩;have HNW:Hid ((eK0 M).now=M.now):=(bL1 M).2;have HNM:Hid (MNum M):=hI.num (by omega);clear h hM hv hE hI hN hlo;go_enter Tryz.func28,Tryz.ntmps28;go_wp2_with fail;refine (sA1 x.eb x.k M w HE.out HNM.out (by omega)).mono ?_;rintro e w1 ⟨err,k',rfl,he,hg,hm'⟩;have HER:Hid (ErrE err (kK0 M)):=he;have HGO:Hid _:=H1.out.go HM.out hg HI.out (by omega) (by rw [HNW.out];omega);have HV1:Hid (DsVars w1):=HV.out.below (hg.2.1.below HLO.out H1.out.slt.2) hB;clear he hg hm';go_wp2_with fail;refine (eQ0 err (kK0 M) w1 HV1.out.et HER.out).mono ?_;rintro e w2 ⟨hc,hb2⟩;have HGO2:Hid (∃x',DsIs w2 lo sb x' { H with mkt:=some (eK0 M) } (n+1)∧Out (DsW w lo sb) w w2):=⟨_,HGO.out.1.below hb2,bA0 HGO.out.2 (Out.of_below hb2 lR7)⟩;rcases hc with ⟨h0,rfl⟩ | ⟨h0,rfl⟩
 ·clear hb2;go_wp2_with fail;go_ret;rw [HD.out];obtain ⟨x',r1,r2⟩:=HGO2.out;exact ⟨dD0.ok h0 rfl,r2,x',r1⟩
 ·clear hb2;go_wp2_with fail;refine ⟨rfl,?_⟩;rw [HD.out];obtain ⟨x',r1,r2⟩:=HGO2.out;exact ⟨dD0.no h0,r2,x',r1⟩
set_option maxRecDepth 8000 in
set_option maxHeartbeats 2000000 in
theorem lP1 (la:Option Addr) (cl:Nat) (l:List Int) (lo sb n:Nat) (x:DsK) (H:DsS) (M:Mkt) (w:World) (h:DsIs w lo sb x H n) (ha:ArgIs w sb la l) (hl:l.length=1) (hM:H.mkt=some M) (hv:DsVars w) (hB:12≤lo) (hn:n≤1900):
  Calls Tryz.prog 25 #[.pointer (some ⟨sb,0,none⟩),.slice la l.length cl] w fun e w'=>cY0 w w' lo sb n (aX0 6 l H) e:=by
 have HD:Hid (aX0 6 l H=((dM0 6 l M).1,{ H with mkt:=some (dM0 6 l M).2 })):=dE0 (by decide) l hM;have H1:Hid (DsIs w lo sb x H n):=h;have HM:Hid (H.mkt=some M):=hM;have HV:Hid (DsVars w):=hv;obtain ⟨g,rfl,hg,d0⟩:=ha.cells 0 (by omega);have hi0:=ha.nums 0;have hw0:(Lit.int .i64 (nI l 0)).wf=true:=WalkArith.wf_i64 hi0;have c6:=h.mkt hM;obtain ⟨hE,⟨lots,side,hI,hN⟩,hlo,hm,hnow⟩:=h.eg M hM;have HE:Hid (Eg w x.eb x.k M):=hE;have HLO:Hid (∀j,x.k.foot x.eb j→lo≤j):=hlo;have hP:M.P.length≤1000:=by have:=hI.few;omega
 have HI:Hid (∃lots side,DayInv (canM M (nI l 0)) lots side 0 true∧NumI (canM M (nI l 0)) lots):=⟨lots,side,(hI.cancel (nI l 0)).hT,⟨hN.kd.can _,hN.lot⟩⟩;have HNW:Hid ((canM M (nI l 0)).now=M.now):=(gL1 M (nI l 0)).2;have HSS:Hid (∀V,Below w.heap.size w V→(fun w':World=>w'.cell? ⟨sb,6,none⟩=some (.pointer (some ⟨x.eb,0,none⟩))∧w'.cell? ⟨g,0,none⟩=some (.int .i64 (nI l 0))) V):=fun V hV=>⟨bB0 hV c6,bB0 hV d0⟩
 clear h ha hM hv hE hI hN hlo c6 d0 hg hi0;rw [hl];go_enter Tryz.func25,Tryz.ntmps25;go_upto_region 1 with fail;refine eA0 (fun _=>fun w':World=>w'.cell? ⟨sb,6,none⟩=some (.pointer (some ⟨x.eb,0,none⟩))∧w'.cell? ⟨g,0,none⟩=some (.int .i64 (nI l 0))) (fun _ i=>i == 7) (by kernel_rfl) (fun _=>HSS.out _ (Below.refl _ _).drew) (fun hHeld=>?_);have bz:Below w.heap.size w w.drew:=(Below.refl _ _).drew;generalize w.drew=wz at bz hHeld ⊢;refine tkM7 0 (i:=0) (v:=?_) rfl (by kernel_rfl) (fun _ _ _ h=>h) (by rfl) ?_ (hHeld 0) ?_;rotate_left
 ·intro w hSw;try simp only [lateS_zero] at hSw
  try dsimp only at hSw
  go_simp;try rfl
 refine tkM7 0 (i:=1) (v:=?_) rfl (by kernel_rfl) (fun _ _ _ h=>h) (by rfl) ?_ (hHeld 0) ?_;rotate_left
 ·intro w hSw;try simp only [lateS_zero] at hSw
  try dsimp only at hSw
  go_simp;try rfl
 refine tkM7 0 (i:=2) (v:=?_) rfl (by kernel_rfl) (fun _ _ _ h=>h) (by rfl) ?_ (hHeld 0) ?_;rotate_left
 ·intro w hSw;try simp only [lateS_zero] at hSw
  try dsimp only at hSw
  go_simp;try rfl
 refine tkM7 0 (i:=3) (v:=?_) rfl (by kernel_rfl) (fun _ _ _ h=>h) (by rfl) ?_ (hHeld 0) ?_;rotate_left
 ·intro w hSw;try simp only [lateS_zero] at hSw
  try dsimp only at hSw
  go_simp;try rfl
 refine tkM7 0 (i:=4) (v:=?_) rfl (by kernel_rfl) (fun _ _ _ h=>h) (by rfl) ?_ (hHeld 0) ?_;rotate_left
 ·intro w hSw;try simp only [lateS_zero] at hSw
  try dsimp only at hSw
  go_simp;try rfl
 refine tkM7 0 (i:=5) (v:=?_) rfl (by kernel_rfl) (fun _ _ _ h=>h) (by rfl) ?_ (hHeld 0) ?_;rotate_left
 ·intro w hSw;try simp only [lateS_zero] at hSw
  try dsimp only at hSw
  go_simp;try rfl
 refine tkM7 0 (i:=6) (v:=?_) rfl (by kernel_rfl) (fun _ _ _ h=>h) (by rfl) ?_ (hHeld 0) ?_;rotate_left
 ·intro w hSw;try simp only [lateS_zero] at hSw
  try dsimp only at hSw
  go_simp;try rfl
 refine hH0 (i:=7) (by kernel_rfl) rfl (fun K hK=>?_);go_simp;refine (lE1 x.eb x.k M (nI l 0) wz (HE.out.below bz) hP hw0 (by omega)).mono ?_;rintro e w1 ⟨err,k',rfl,he,hg,hm'⟩;have HER:Hid (ErrE err (mL0 M (nI l 0))):=he;have hg0:EgGo w w1 x.eb x.k k' (canM M (nI l 0)):=(EgGo.stay HE.out bz).trans hg;have HGO:Hid _:=H1.out.go HM.out hg0 HI.out (by omega) (by rw [HNW.out];omega);have HV1:Hid (DsVars w1):=HV.out.below (hg0.2.1.below HLO.out H1.out.slt.2) hB;refine hK.out _ _ (fun _ h=>by cases h) ?_;clear hK K hHeld bz he hg hg0 hm';refine hH0 (i:=8) (by kernel_rfl) rfl (fun K hK=>?_);go_simp;refine (eQ0 err (mL0 M (nI l 0)) w1 HV1.out.et HER.out).mono ?_;rintro e w2 ⟨hc,hb2⟩;have HGO2:Hid (∃x',DsIs w2 lo sb x' { H with mkt:=some (canM M (nI l 0)) } (n+1)∧Out (DsW w lo sb) w w2):=⟨_,HGO.out.1.below hb2,bA0 HGO.out.2 (Out.of_below hb2 lR7)⟩;rcases hc with ⟨h0,rfl⟩ | ⟨h0,rfl⟩
 ·refine hK.out _ _ (fun _ _ hS=>⟨bB0 hb2 hS.1,bB0 hb2 hS.2⟩) ?_;clear hK K hb2;refine gB0 (by kernel_rfl) ?_ _;go_wp2_with fail;go_ret;rw [HD.out];obtain ⟨x',r1,r2⟩:=HGO2.out;exact ⟨dD0.ok h0 rfl,r2,x',r1⟩
 ·clear hb2;go_wp2_with fail;refine ⟨rfl,?_⟩;rw [HD.out];obtain ⟨x',r1,r2⟩:=HGO2.out;exact ⟨dD0.no h0,r2,x',r1⟩
theorem lW0.below {w w':World} {a:Option Addr} {l:List Fil} (h:lW0 w a l) (hb:Below w.heap.size w w'):lW0 w' a l:=fun k hk=>by
 obtain ⟨b,off,e,h0,h1,h2,h3⟩:=h k hk;exact ⟨b,off,e,bB0 hb h0,bB0 hb h1,bB0 hb h2,bB0 hb h3⟩
section
variable {M:Mkt} {lots side:Int→Int}
theorem zI0 (h:DayInv M lots side 0 true) (hL:LOk M.L) (hN:NumI M lots):(∀f∈(bO0 M).1,filI f)∧(∃lots side,DayInv (bO0 M).2 lots side 0 true∧NumI (bO0 M).2 lots):=by
 obtain ⟨h1,h2⟩:=h.tick hL;obtain ⟨r1,r2⟩:=LotI.fills hN.lot (fun id=>(h.lb id).2) h1;refine ⟨fun f hf=>?_,_,_,h2.hT,⟨hN.kd.tick,r2⟩⟩;have:=bM1 hL h.la f hf;exact ⟨(r1 f hf).1,(r1 f hf).2.1,bC0 (by omega),(r1 f hf).2.2⟩
theorem xG0 (h:DayInv M lots side 0 true) (hL:LOk M.L) (hN:NumI M lots) {o:Ord} (hi:in64 o.id) (hk:in64 o.kind) (hp:in64 o.price):(∀f∈(ordM M o).1,filI f)∧(∃lots side,DayInv (ordM M o).2 lots side 0 true∧NumI (ordM M o).2 lots):=by
 by_cases hz:ordN M o=0
 ·obtain ⟨h1,h2,_,h4⟩:=h.order_yes hL (WalkArith.wf_i64 hi) hz;have hr:RefOk M (lieO o):=pB0 (by rw [←mX0];exact hz)
  have hq:o.qty≤1000000:=by
   have:=hr.right.2.2.2;have e:(lieO o).qty=o.qty:=by unfold lieO;split <;> rfl
   omega
  obtain ⟨r1,r2⟩:=LotI.fills (hN.lot.up (v:=o.qty) hi) (fun id=>by
   by_cases e:id=o.id
   ·rw [e,dC0];exact hq
   ·rw [cC0 e];exact (h.lb id).2) h1
  refine ⟨fun f hf=>?_,_,_,h4.hT,⟨hN.kd.ord hk hp,r2⟩⟩;have:=pD0 h.an h.sh.1 h2 f hf;exact ⟨(r1 f hf).1,(r1 f hf).2.1,bC0 (by omega),(r1 f hf).2.2⟩
 ·obtain ⟨h1,h2⟩:=h.order_no hz;exact ⟨fun f hf=>(by rw [h1] at hf;cases hf),lots,side,h2.hT,⟨hN.kd.ord hk hp,hN.lot⟩⟩
end
set_option maxRecDepth 8000 in
set_option maxHeartbeats 2000000 in
theorem sM1 (la:Option Addr) (cl:Nat) (l:List Int) (lo sb n:Nat) (x:DsK) (H:DsS) (M:Mkt) (w:World) (h:DsIs w lo sb x H n) (hM:H.mkt=some M) (hv:DsVars w) (hB:12≤lo) (hn:n≤1900):
  Calls Tryz.prog 26 #[.pointer (some ⟨sb,0,none⟩),.slice la l.length cl] w fun e w'=>cY0 w w' lo sb n (aX0 7 l H) e:=by
 have HD:Hid (aX0 7 l H=((dM0 7 l M).1,{ H with mkt:=some (dM0 7 l M).2 })):=dE0 (by decide) l hM;have H1:Hid (DsIs w lo sb x H n):=h;have HM:Hid (H.mkt=some M):=hM;have HV:Hid (DsVars w):=hv;have c6:=h.mkt hM;obtain ⟨hE,⟨lots,side,hI,hN⟩,hlo,hm,hnow⟩:=h.eg M hM;have HE:Hid (Eg w x.eb x.k M):=hE;have HLO:Hid (∀j,x.k.foot x.eb j→lo≤j):=hlo;obtain ⟨hF,hI2⟩:=zI0 hI hE.lok hN;have HF:Hid (∀f∈(bO0 M).1,filI f):=hF;have HI:Hid (∃lots side,DayInv (bO0 M).2 lots side 0 true∧NumI (bO0 M).2 lots):=hI2;obtain ⟨hl1,_,hl2⟩:=uV0 hE.lok hE.few100;have HNM:Hid (MNum M):=hI.num (by omega);have HAU:Hid ((phaseV M.rs (M.now+1)).1=3→(phaseV M.rs M.now).1≠3→M.ph≠6→eD0 M.ph=true):=fun a b c=>hI.auct a b c
 have hnw:in64 (bO0 M).2.now:=by
  obtain ⟨_,_,hI3,_⟩:=hI2;have:=hI3.now;exact bC0 (by omega)
 clear h hM hv hE hI hN hlo hF hI2;go_enter Tryz.func26,Tryz.ntmps26;go_wp2_with fail;refine (rZ1 x.eb x.k M w HE.out HNM.out HAU.out (by omega)).mono ?_;rintro e w1 ⟨vf,err,rfl,he,k',hr,hg,hm'⟩;have HER:Hid (ErrE err (rN0 M)):=he;have HGO:Hid _:=H1.out.go HM.out hg HI.out (by omega) (by omega);have HV1:Hid (DsVars w1):=HV.out.below (hg.2.1.below HLO.out H1.out.slt.2) hB;obtain ⟨a,cap,rfl,hin⟩:=lW0.of_row hr;have HIN:Hid (lW0 w1 a (bO0 M).1):=hin;clear he hg hm' hr hin c6;go_wp2_with fail;refine (eQ0 err (rN0 M) w1 HV1.out.et HER.out).mono ?_;rintro e w2 ⟨hc,hb2⟩;have HV2:Hid (DsVars w2):=HV1.out.below hb2 (Nat.le_trans hB (Nat.le_trans HGO.out.1.slt.2 lR7));have HIN2:Hid (lW0 w2 a (bO0 M).1):=HIN.out.below hb2;have HGO2:Hid (DsIs w2 lo sb { x with k:=k' } { H with mkt:=some (bO0 M).2 } (n+1)∧Out (DsW w lo sb) w w2):=⟨HGO.out.1.below hb2,bA0 HGO.out.2 (Out.of_below hb2 lR7)⟩;rcases hc with ⟨h0,rfl⟩ | ⟨h0,rfl⟩
 ·clear hb2;have c6:w2.cell? ⟨sb,6,none⟩=some (.pointer (some ⟨x.eb,0,none⟩)):=HGO2.out.1.mkt rfl;have HE2:Hid (Eg w2 x.eb k' (bO0 M).2):=(HGO2.out.1.eg _ rfl).1;go_wp2_with fail;refine (tE1 x.eb k' (bO0 M).2 w2 HE2.out).mono ?_;rintro e w3 ⟨rfl,rfl⟩;go_wp2_with fail;have hbL:=bel1 w3 (.cells #[.int .i64 (bO0 M).2.now] 3);refine (aQ1 w3.heap.size 0 1 [(bO0 M).2.now] _ (hG0 w3 [(bO0 M).2.now] 3) (fun z hz=>by rw [List.mem_singleton.1 hz];exact hnw) (by simp) (by simp) (HV2.out.tab.below hbL)).mono ?_;rintro e w4 ⟨rfl,hb4⟩;have HB4:Hid (Below w3.heap.size w3 w4):=aC0 hbL hb4
  have hrl:(rowT [(bO0 M).2.now]).length≤1000:=by
   have:=dI0 (m:=21) ([(bO0 M).2.now].map Lib.itoa) [32] (fun y hy=>by
    obtain ⟨z,hz,rfl⟩:=List.mem_map.1 hy;rw [List.mem_singleton.1 hz];exact Lib.itoa_length_le _ hnw.1 hnw.2)
   simp at this;unfold rowT;simp;omega
  clear hbL hb4 c6;go_wp2_with fail;refine (nD1 (rowT [(bO0 M).2.now]) a cap (bO0 M).1 w4 (HIN2.out.below HB4.out) HF.out (by omega) hrl (HV2.out.tab.below HB4.out)).mono ?_;rintro e w5 ⟨rfl,hb5⟩;have HB5:Hid (Below w3.heap.size w3 w5):=aC0 HB4.out hb5;clear hb5;go_wp2_with fail;go_ret;rw [HD.out];exact ⟨dD0.ok h0 rfl,bA0 HGO2.out.2 (Out.of_below HB5.out lR7),_,HGO2.out.1.below HB5.out⟩
 ·clear hb2;go_wp2_with fail;refine ⟨rfl,?_⟩;rw [HD.out];exact ⟨dD0.no h0,HGO2.out.2,_,HGO2.out.1⟩
set_option maxRecDepth 8000 in
set_option maxHeartbeats 4000000 in
theorem gY1 (la:Option Addr) (cl:Nat) (l:List Int) (s:Int) (d:Nat) (lo sb n:Nat) (x:DsK) (H:DsS) (M:Mkt) (w:World) (h:DsIs w lo sb x H n) (ha:ArgIs w sb la l) (hl:l.length=4) (hM:H.mkt=some M) (hv:DsVars w) (hB:12≤lo) (hn:n≤1900)
  (hd:aX0 d l H=(orE (ordN M (ordI s l)) (tX0 [116,97,107,101,110] (ordM M (ordI s l)).1),{ H with mkt:=some (ordM M (ordI s l)).2 })):
  Calls Tryz.prog 67 #[.pointer (some ⟨sb,0,none⟩),.int .i64 s,.slice la l.length cl] w fun e w'=>cY0 w w' lo sb n (aX0 d l H) e:=by
 have HD:Hid _:=hd;have H1:Hid (DsIs w lo sb x H n):=h;have HM:Hid (H.mkt=some M):=hM;have HV:Hid (DsVars w):=hv;obtain ⟨g,rfl,hg,d0⟩:=ha.cells 0 (by omega);obtain ⟨g1,e1,_,d1⟩:=ha.cells 1 (by omega);obtain ⟨g2,e2,_,d2⟩:=ha.cells 2 (by omega);obtain ⟨g3,e3,_,d3⟩:=ha.cells 3 (by omega);cases e1;cases e2;cases e3;have c6:=h.mkt hM;obtain ⟨hE,⟨lots,side,hI,hN⟩,hlo,hm,hnow⟩:=h.eg M hM;have HE:Hid (Eg w x.eb x.k M):=hE;have HLO:Hid (∀j,x.k.foot x.eb j→lo≤j):=hlo;obtain ⟨hF,hI2⟩:=xG0 (o:=ordI s l) hI hE.lok hN (ha.nums 0) (ha.nums 1) (ha.nums 2);have HF:Hid (∀f∈(ordM M (ordI s l)).1,filI f):=hF;have HI:Hid (∃lots side,DayInv (ordM M (ordI s l)).2 lots side 0 true∧NumI (ordM M (ordI s l)).2 lots):=hI2;obtain ⟨hl1,_,hl2⟩:=sD0 (o:=ordI s l) hE.few100;have HNM:Hid (MNum M):=hI.num (by omega);have hw0:(Lit.int .i64 (ordI s l).id).wf=true:=WalkArith.wf_i64 (ha.nums 0);have HSS:Hid (∀V,Below w.heap.size w V→(fun w':World=>w'.cell? ⟨sb,6,none⟩=some (.pointer (some ⟨x.eb,0,none⟩))∧w'.cell? ⟨g,0,none⟩=some (.int .i64 (nI l 0))∧w'.cell? ⟨g,1,none⟩=some (.int .i64 (nI l 1))∧w'.cell? ⟨g,2,none⟩=some (.int .i64 (nI l 2))∧w'.cell? ⟨g,3,none⟩=some (.int .i64 (nI l 3))) V):=fun V hV=>⟨bB0 hV c6,bB0 hV d0,bB0 hV d1,bB0 hV d2,bB0 hV d3⟩
 clear h ha hM hv hE hI hN hlo c6 d0 d1 d2 d3 hg hF hI2 hd;rw [hl];go_enter Tryz.func67,Tryz.ntmps67;go_upto_region 1 with fail;refine eA0 (fun _=>fun w':World=>w'.cell? ⟨sb,6,none⟩=some (.pointer (some ⟨x.eb,0,none⟩))∧w'.cell? ⟨g,0,none⟩=some (.int .i64 (nI l 0))∧w'.cell? ⟨g,1,none⟩=some (.int .i64 (nI l 1))∧w'.cell? ⟨g,2,none⟩=some (.int .i64 (nI l 2))∧w'.cell? ⟨g,3,none⟩=some (.int .i64 (nI l 3))) (fun _ i=>i == 18) (by kernel_rfl) (fun _=>HSS.out _ (Below.refl _ _).drew) (fun hHeld=>?_);have bz:Below w.heap.size w w.drew:=(Below.refl _ _).drew;generalize w.drew=wz at bz hHeld ⊢;refine tkM7 0 (i:=0) (v:=?_) rfl (by kernel_rfl) (fun _ _ _ h=>h) (by rfl) ?_ (hHeld 0) ?_;rotate_left
 ·intro w hSw;try simp only [lateS_zero] at hSw
  try dsimp only at hSw
  go_simp;try rfl
 refine tkM7 0 (i:=1) (v:=?_) rfl (by kernel_rfl) (fun _ _ _ h=>h) (by rfl) ?_ (hHeld 0) ?_;rotate_left
 ·intro w hSw;try simp only [lateS_zero] at hSw
  try dsimp only at hSw
  go_simp;try rfl
 refine tkM7 0 (i:=2) (v:=?_) rfl (by kernel_rfl) (fun _ _ _ h=>h) (by rfl) ?_ (hHeld 0) ?_;rotate_left
 ·intro w hSw;try simp only [lateS_zero] at hSw
  try dsimp only at hSw
  go_simp;try rfl
 refine tkM7 0 (i:=3) (v:=?_) rfl (by kernel_rfl) (fun _ _ _ h=>h) (by rfl) ?_ (hHeld 0) ?_;rotate_left
 ·intro w hSw;try simp only [lateS_zero] at hSw
  try dsimp only at hSw
  go_simp;try rfl
 refine tkM7 0 (i:=4) (v:=?_) rfl (by kernel_rfl) (fun _ _ _ h=>h) (by rfl) ?_ (hHeld 0) ?_;rotate_left
 ·intro w hSw;try simp only [lateS_zero] at hSw
  try dsimp only at hSw
  go_simp;try rfl
 refine tkM7 0 (i:=5) (v:=?_) rfl (by kernel_rfl) (fun _ _ _ h=>h) (by rfl) ?_ (hHeld 0) ?_;rotate_left
 ·intro w hSw;try simp only [lateS_zero] at hSw
  try dsimp only at hSw
  go_simp;try rfl
 refine tkM7 0 (i:=6) (v:=?_) rfl (by kernel_rfl) (fun _ _ _ h=>h) (by rfl) ?_ (hHeld 0) ?_;rotate_left
 ·intro w hSw;try simp only [lateS_zero] at hSw
  try dsimp only at hSw
  go_simp;try rfl
 refine tkM7 0 (i:=7) (v:=?_) rfl (by kernel_rfl) (fun _ _ _ h=>h) (by rfl) ?_ (hHeld 0) ?_;rotate_left
 ·intro w hSw;try simp only [lateS_zero] at hSw
  try dsimp only at hSw
  go_simp;try rfl
 refine tkM7 0 (i:=8) (v:=?_) rfl (by kernel_rfl) (fun _ _ _ h=>h) (by rfl) ?_ (hHeld 0) ?_;rotate_left
 ·intro w hSw;try simp only [lateS_zero] at hSw
  try dsimp only at hSw
  go_simp;try rfl
 refine tkM7 0 (i:=9) (v:=?_) rfl (by kernel_rfl) (fun _ _ _ h=>h) (by rfl) ?_ (hHeld 0) ?_;rotate_left
 ·intro w hSw;try simp only [lateS_zero] at hSw
  try dsimp only at hSw
  go_simp;try rfl
 refine tkM7 0 (i:=10) (v:=?_) rfl (by kernel_rfl) (fun _ _ _ h=>h) (by rfl) ?_ (hHeld 0) ?_;rotate_left
 ·intro w hSw;try simp only [lateS_zero] at hSw
  try dsimp only at hSw
  go_simp;try rfl
 refine tkM7 0 (i:=11) (v:=?_) rfl (by kernel_rfl) (fun _ _ _ h=>h) (by rfl) ?_ (hHeld 0) ?_;rotate_left
 ·intro w hSw;try simp only [lateS_zero] at hSw
  try dsimp only at hSw
  go_simp;try rfl
 refine tkM7 0 (i:=12) (v:=?_) rfl (by kernel_rfl) (fun _ _ _ h=>h) (by rfl) ?_ (hHeld 0) ?_;rotate_left
 ·intro w hSw;try simp only [lateS_zero] at hSw
  try dsimp only at hSw
  go_simp;try rfl
 refine tkM7 0 (i:=13) (v:=?_) rfl (by kernel_rfl) (fun _ _ _ h=>h) (by rfl) ?_ (hHeld 0) ?_;rotate_left
 ·intro w hSw;try simp only [lateS_zero] at hSw
  try dsimp only at hSw
  go_simp;try rfl
 refine tkM7 0 (i:=14) (v:=?_) rfl (by kernel_rfl) (fun _ _ _ h=>h) (by rfl) ?_ (hHeld 0) ?_;rotate_left
 ·intro w hSw;try simp only [lateS_zero] at hSw
  try dsimp only at hSw
  go_simp;try rfl
 refine tkM7 0 (i:=15) (v:=?_) rfl (by kernel_rfl) (fun _ _ _ h=>h) (by rfl) ?_ (hHeld 0) ?_;rotate_left
 ·intro w hSw;try simp only [lateS_zero] at hSw
  try dsimp only at hSw
  go_simp;try rfl
 refine tkM7 0 (i:=16) (v:=?_) rfl (by kernel_rfl) (fun _ _ _ h=>h) (by rfl) ?_ (hHeld 0) ?_;rotate_left
 ·intro w hSw;try simp only [lateS_zero] at hSw
  try dsimp only at hSw
  go_simp;try rfl
 refine tkM7 0 (i:=17) (v:=?_) rfl (by kernel_rfl) (fun _ _ _ h=>h) (by rfl) ?_ (hHeld 0) ?_;rotate_left
 ·intro w hSw;try simp only [lateS_zero] at hSw
  try dsimp only at hSw
  go_simp;try rfl
 refine hH0 (i:=18) (by kernel_rfl) rfl (fun K hK=>?_);go_simp;refine (pH1 x.eb x.k M (ordI s l) wz (HE.out.below bz) HNM.out hw0 (by omega)).mono ?_;rintro e w1 ⟨vf,err,rfl,he,k',hr,hg,hm'⟩;have HER:Hid (ErrE err (ordN M (ordI s l))):=he;have hg0:EgGo w w1 x.eb x.k k' (ordM M (ordI s l)).2:=(EgGo.stay HE.out bz).trans hg;have HGO:Hid _:=H1.out.go HM.out hg0 HI.out (by omega) (by omega);have HV1:Hid (DsVars w1):=HV.out.below (hg0.2.1.below HLO.out H1.out.slt.2) hB;obtain ⟨a,cap,rfl,hin⟩:=lW0.of_row hr;have HIN:Hid (lW0 w1 a (ordM M (ordI s l)).1):=hin;refine hK.out _ _ (fun _ h=>by cases h) ?_;clear hK K hHeld bz he hg hg0 hm' hr hin hw0;generalize ordM M (ordI s l)=R at HD HF HI hl1 hl2 HGO HIN ⊢;generalize ordN M (ordI s l)=N at HD HER ⊢;refine puM7 (i:=19) (v:=?_) rfl (by kernel_rfl) (fun _ _ _ h=>h) (by rfl) ?_ ?_;rotate_left
 ·intro w;go_simp;try rfl
 refine puM7 (i:=20) (v:=?_) rfl (by kernel_rfl) (fun _ _ _ h=>h) (by rfl) ?_ ?_;rotate_left
 ·intro w;go_simp;try rfl
 refine puM7 (i:=21) (v:=?_) rfl (by kernel_rfl) (fun _ _ _ h=>h) (by rfl) ?_ ?_;rotate_left
 ·intro w;go_simp;try rfl
 refine puM7 (i:=22) (v:=?_) rfl (by kernel_rfl) (fun _ _ _ h=>h) (by rfl) ?_ ?_;rotate_left
 ·intro w;go_simp;try rfl
 refine puM7 (i:=23) (v:=?_) rfl (by kernel_rfl) (fun _ _ _ h=>h) (by rfl) ?_ ?_;rotate_left
 ·intro w;go_simp;try rfl
 refine gB0 (by kernel_rfl) ?_ _;go_wp2_with fail;refine (eQ0 err N w1 HV1.out.et HER.out).mono ?_;rintro e w2 ⟨hc,hb2⟩;have HV2:Hid (DsVars w2):=HV1.out.below hb2 (Nat.le_trans hB HGO.out.1.slt.2);have HIN2:Hid (lW0 w2 a R.1):=HIN.out.below hb2;have HGO2:Hid (DsIs w2 lo sb { x with k:=k' } { H with mkt:=some R.2 } (n+1)∧Out (DsW w lo sb) w w2):=⟨HGO.out.1.below hb2,bA0 HGO.out.2 (Out.of_below hb2 lR7)⟩;rcases hc with ⟨h0,rfl⟩ | ⟨h0,rfl⟩
 ·clear hb2;go_wp2_with fail;refine (nD1 [116,97,107,101,110] a cap R.1 w2 HIN2.out HF.out (by omega) (by decide) HV2.out.tab).mono ?_;rintro e w5 ⟨rfl,hb5⟩;have HB5:Hid (Below w2.heap.size w2 w5):=hb5;clear hb5;go_wp2_with fail;go_ret;rw [HD.out];exact ⟨dD0.ok h0 rfl,bA0 HGO2.out.2 (Out.of_below HB5.out lR7),_,HGO2.out.1.below HB5.out⟩
 ·clear hb2;go_wp2_with fail;refine ⟨rfl,?_⟩;rw [HD.out];exact ⟨dD0.no h0,HGO2.out.2,_,HGO2.out.1⟩
theorem lQ1 {H:DsS} {M:Mkt} (l:List Int) (hM:H.mkt=some M):aX0 4 l H=(orE (ordN M (ordI 1 l)) (tX0 [116,97,107,101,110] (ordM M (ordI 1 l)).1),{ H with mkt:=some (ordM M (ordI 1 l)).2 }):=by simp only [aX0,hM,dM0]
theorem gZ1 {H:DsS} {M:Mkt} (l:List Int) (hM:H.mkt=some M):aX0 5 l H=(orE (ordN M (ordI 2 l)) (tX0 [116,97,107,101,110] (ordM M (ordI 2 l)).1),{ H with mkt:=some (ordM M (ordI 2 l)).2 }):=by simp only [aX0,hM,dM0]
set_option maxRecDepth 8000 in
set_option maxHeartbeats 400000 in
theorem tO1 (la:Option Addr) (cl:Nat) (l:List Int) (lo sb n:Nat) (x:DsK) (H:DsS) (M:Mkt) (w:World) (h:DsIs w lo sb x H n) (ha:ArgIs w sb la l) (hl:l.length=4) (hM:H.mkt=some M) (hv:DsVars w) (hB:12≤lo) (hn:n≤1900):
  Calls Tryz.prog 23 #[.pointer (some ⟨sb,0,none⟩),.slice la l.length cl] w fun e w'=>cY0 w w' lo sb n (aX0 4 l H) e:=by
 have hc:=gY1 la cl l 1 4 lo sb n x H M w h ha hl hM hv hB hn (lQ1 l hM);clear h ha hM hv hl;generalize aX0 4 l H=R at hc ⊢;go_enter Tryz.func23,Tryz.ntmps23;go_wp2_with fail;refine hc.mono ?_;clear hc;rintro e w1 hd;have HE:Hid (dD0 R.1 e):=hd.1;have HR:Hid (Out (DsW w lo sb) w w1∧∃x',DsIs w1 lo sb x' R.2 (n+1)):=hd.2;rcases hd.1 with ⟨_,rfl⟩ | ⟨_,rfl⟩
 ·clear hd;go_wp2_with fail;go_ret;exact ⟨HE.out,HR.out⟩
 ·clear hd;go_wp2_with fail;exact ⟨rfl,HE.out,HR.out⟩
set_option maxRecDepth 8000 in
set_option maxHeartbeats 400000 in
theorem sN1 (la:Option Addr) (cl:Nat) (l:List Int) (lo sb n:Nat) (x:DsK) (H:DsS) (M:Mkt) (w:World) (h:DsIs w lo sb x H n) (ha:ArgIs w sb la l) (hl:l.length=4) (hM:H.mkt=some M) (hv:DsVars w) (hB:12≤lo) (hn:n≤1900):
  Calls Tryz.prog 24 #[.pointer (some ⟨sb,0,none⟩),.slice la l.length cl] w fun e w'=>cY0 w w' lo sb n (aX0 5 l H) e:=by
 have hc:=gY1 la cl l 2 5 lo sb n x H M w h ha hl hM hv hB hn (gZ1 l hM);clear h ha hM hv hl;generalize aX0 5 l H=R at hc ⊢;go_enter Tryz.func24,Tryz.ntmps24;go_wp2_with fail;refine hc.mono ?_;clear hc;rintro e w1 hd;have HE:Hid (dD0 R.1 e):=hd.1;have HR:Hid (Out (DsW w lo sb) w w1∧∃x',DsIs w1 lo sb x' R.2 (n+1)):=hd.2;rcases hd.1 with ⟨_,rfl⟩ | ⟨_,rfl⟩
 ·clear hd;go_wp2_with fail;go_ret;exact ⟨HE.out,HR.out⟩
 ·clear hd;go_wp2_with fail;exact ⟨rfl,HE.out,HR.out⟩
set_option maxRecDepth 100000 in
theorem lR1 (d:Nat) (hd:d<18) (args:Array Value) (w:World):(callFunc (uB0.getD d 0) args).run Tryz.prog w=.ok (.enter (uB0.getD d 0) args) w:=by
 match d,hd with
 | 0,_=>rfl
 | 1,_=>rfl
 | 2,_=>rfl
 | 3,_=>rfl
 | 4,_=>rfl
 | 5,_=>rfl
 | 6,_=>rfl
 | 7,_=>rfl
 | 8,_=>rfl
 | 9,_=>rfl
 | 10,_=>rfl
 | 11,_=>rfl
 | 12,_=>rfl
 | 13,_=>rfl
 | 14,_=>rfl
 | 15,_=>rfl
 | 16,_=>rfl
 | 17,_=>rfl
 | d+18,h=>exact absurd h (by omega)
theorem jU0 {b:Int} {n:Nat} (h:kP0 b n=true) (hb:b≠-1):(n:Int)=b:=by
 unfold kP0 at h;rw [if_neg hb] at h;exact of_decide_eq_true h
theorem hA1 {n:Nat} (h:kP0 (-1) n=true):n % 2=0:=by
 have h1:(n:Int) % 2=0:=of_decide_eq_true h;omega
theorem cL0 {H:DsS} (h:mayD 2 H=true):∃M,H.mkt=some M:=by
 cases hm:H.mkt with
 | some M=>exact ⟨M,rfl⟩
 | none=>
  unfold mayD at h;rw [hm] at h;exact absurd h (by decide)
theorem jB0 {H:DsS} (h:mayD 1 H=true):H.mkt=none:=by
 cases hm:H.mkt with
 | none=>rfl
 | some M=>
  unfold mayD at h;rw [hm] at h;simp at h
theorem sO1 (d:Nat) (hd:d<18) (la:Option Addr) (cl:Nat) (l:List Int) (lo sb n:Nat) (x:DsK) (H:DsS) (w:World) (h:DsIs w lo sb x H n) (ha:ArgIs w sb la l) (hf:kP0 (dZ0 d) l.length=true) (hm:mayD (gL0 d) H=true) (hl:l.length≤10000) (hr:H.rs.length≤10000) (hv:DsVars w) (hB:12≤lo) (hn:n≤1900):
  Calls Tryz.prog (uB0.getD d 0) #[.pointer (some ⟨sb,0,none⟩),.slice la l.length cl] w fun e w'=>cY0 w w' lo sb n (aX0 d l H) e:=by
 match d,hd with
 | 0,_=>exact pS1 la cl l lo sb n x H w h ha (hA1 hf) hl (jB0 hm)
 | 1,_=>exact pR1 la cl l lo sb n x H w h ha (Int.ofNat.inj (jU0 hf (by decide))) (jB0 hm)
 | 2,_=>exact gR1 la cl l lo sb n x H w h ha (Int.ofNat.inj (jU0 hf (by decide))) (jB0 hm)
 | 3,_=>exact pT1 la cl l lo sb n x H w h hr (jB0 hm) hv hB
 | 4,_=>
  obtain ⟨M,hM⟩:=cL0 hm;exact tO1 la cl l lo sb n x H M w h ha (Int.ofNat.inj (jU0 hf (by decide))) hM hv hB hn
 | 5,_=>
  obtain ⟨M,hM⟩:=cL0 hm;exact sN1 la cl l lo sb n x H M w h ha (Int.ofNat.inj (jU0 hf (by decide))) hM hv hB hn
 | 6,_=>
  obtain ⟨M,hM⟩:=cL0 hm;exact lP1 la cl l lo sb n x H M w h ha (Int.ofNat.inj (jU0 hf (by decide))) hM hv hB hn
 | 7,_=>
  obtain ⟨M,hM⟩:=cL0 hm;exact sM1 la cl l lo sb n x H M w h hM hv hB hn
 | 8,_=>
  obtain ⟨M,hM⟩:=cL0 hm;exact sK1 la cl l lo sb n x H M w h hM hv hB
 | 9,_=>
  obtain ⟨M,hM⟩:=cL0 hm;exact sL1 la cl l lo sb n x H M w h hM hv hB hn
 | 10,_=>
  obtain ⟨M,hM⟩:=cL0 hm;exact pX1 la cl l lo sb n x H M w h hM
 | 11,_=>
  obtain ⟨M,hM⟩:=cL0 hm;exact pY1 la cl l lo sb n x H M w h hM hv.tab
 | 12,_=>
  obtain ⟨M,hM⟩:=cL0 hm;exact sJ1 la cl l lo sb n x H M w h hM hv.tab
 | 13,_=>
  obtain ⟨M,hM⟩:=cL0 hm;exact lO1 la cl l lo sb n x H M w h ha (Int.ofNat.inj (jU0 hf (by decide))) hM hv hB
 | 14,_=>
  obtain ⟨M,hM⟩:=cL0 hm;exact lN1 la cl l lo sb n x H M w h hM hv.tab
 | 15,_=>exact sI1 la cl l lo sb n x H w h ha (Int.ofNat.inj (jU0 hf (by decide))) hv hB
 | 16,_=>exact pQ1 la cl l lo sb n x H w h
 | 17,_=>exact sH1 la cl l lo sb n x H w h
 | d+18,h=>exact absurd h (by omega)
def bT0 (e:Int):Prop:=0≤e∧e≤20
theorem nA0 {e:Int} (h:bT0 e):in64 e:=⟨by have:=h.1;omega,by have:=h.2;omega⟩
theorem sm0:bT0 0:=⟨by decide,by decide⟩
theorem sm1:bT0 1:=⟨by decide,by decide⟩
theorem sm2:bT0 2:=⟨by decide,by decide⟩
theorem sm4:bT0 4:=⟨by decide,by decide⟩
theorem sm6:bT0 6:=⟨by decide,by decide⟩
theorem sm8:bT0 8:=⟨by decide,by decide⟩
theorem hC1 (p r:Int×Int):bT0 (rowE p r):=by
 unfold rowE jF0 bT0;split <;> first | omega | (split <;> first | omega | (split <;> omega))
theorem qT0:∀(rs:List (Int×Int)) (p:Int×Int) (i:Nat),bT0 (eW0 p i rs).1
 | [],_,_=>sm0
 | r::rs,p,i=>by
  unfold eW0;split
  ·exact qT0 rs r (i+1)
  ·exact hC1 p r
theorem hD1 (rs:List (Int×Int)):bT0 (tabE rs).1:=by
 cases rs with
 | nil=>exact sm8
 | cons r rs=>
  rw [iX0];split
  ·exact sm4
  ·split
   ·exact qT0 rs r 1
   ·exact sm1
theorem hE1 (rs:List (Int×Int)) (st dy p ti mo:Int):bT0 (newE rs st dy p ti mo).1:=by
 unfold newE;split
 ·exact hD1 rs
 ·split
  ·exact sm0
  ·exact sm2
theorem gC0 {e:Int} (t:List UInt8) (h:bT0 e):bT0 (orE e t).1:=by
 unfold orE;split
 ·exact sm0
 ·exact h
theorem vA0 (M:Mkt) (o:Ord):bT0 (ordN M o):=by
 unfold ordN bT0;split
 ·omega
 ·split
  ·omega
  ·split
   ·omega
   ·split
    ·omega
    ·split <;> omega
theorem hG1 (M:Mkt) (id:Int):bT0 (mL0 M id):=by
 unfold mL0 canN bT0;split
 ·omega
 ·split
  ·omega
  ·split <;> first | omega | (split <;> omega)
theorem bQ1 (d:Nat) (l:List Int) (M:Mkt):bT0 (dM0 d l M).1.1:=by
 have z:∀t:List UInt8,bT0 ((0,t):Int×List UInt8).1:=fun _=>sm0
 unfold dM0;split
 ·exact gC0 _ (vA0 _ _)
 ·exact gC0 _ (vA0 _ _)
 ·exact gC0 _ (hG1 _ _)
 ·exact gC0 _ (by unfold rN0 bT0;split <;> omega)
 ·exact gC0 _ (by unfold oC0 bT0;split <;> omega)
 ·exact gC0 _ (by unfold kK0 bT0;split <;> omega)
 ·exact z _
 ·exact z _
 ·exact z _
 ·show bT0 (if _ then _ else _:Int×List UInt8).1;split
  ·exact z _
  ·exact sm1
 ·exact z _
theorem lY0 (d:Nat) (l:List Int) (H:DsS):bT0 (aX0 d l H).1.1:=by
 have z:∀t:List UInt8,bT0 ((0,t):Int×List UInt8).1:=fun _=>sm0
 unfold aX0;split
 ·exact z _
 ·exact z _
 ·exact z _
 ·split
  ·exact z _
  ·exact hE1 _ _ _ _ _ _
 ·exact gC0 _ (by unfold aH1 bT0;split <;> omega)
 ·exact z _
 ·exact z _
 ·split
  ·exact sm6
  ·exact bQ1 _ _ _
def hH1 (w:World) (lo sb n:Nat) (s:ByteArray) (r:(Int×List UInt8)×DsS) (e:Ending) (w':World):Prop:=
 e=.returned (.string (baOf (ansT r.1)))∧Out (DsW w lo sb) w w'∧∃x' n',DsIs w' lo sb x' r.2 n'∧(n'=n∨(n'=n+1∧3≤s.size))
theorem hI1 {w:World} {base A n c:Nat} {ws:List ByteArray} (h:w.ownsRow base 9 1 (.slice (some ⟨A,0,none⟩) n c) n (ws.map Value.string)) {j:Nat} {u:ByteArray} (hj:ws[j]? = some u):w.cell? ⟨A,j,none⟩=some (.string u):=by
 obtain ⟨hl,⟨e,_⟩ | ⟨g,c',cur,e,_,hh,_,_,_,hct⟩⟩:=h
 ·cases e
 ·injection e with e5 _ _;injection e5 with e5;injection e5 with e5 _ _;subst e5;have h1:(ws.map Value.string)[j]? = some (.string u):=by rw [List.getElem?_map,hj];rfl
  rw [←hct,List.getElem?_take] at h1;split at h1
  ·have h4:cur[j]? = some (.string u):=by rw [←h1];simp
   simp [World.cell?,hh,h4]
  ·cases h1
def hJ1:Value→Option Addr
 | .slice a _ _=>a
 | _=>none
theorem hM1 {w:World} {base sb:Nat} {v:Value} {l:List Int} (h:w.ownsRow base 3 1 v l.length (xB0 l)) (hsb:sb<base) (hn:∀z∈l,-9223372036854775808≤z∧z≤9223372036854775807):ArgIs w sb (hJ1 v) l:=by
 refine ⟨fun k hk=>?_,fun k=>?_⟩
 ·obtain ⟨hl,⟨e,e0⟩ | ⟨g,c',cur,rfl,hg,hh,_,_,_,hct⟩⟩:=h
  ·omega
  ·refine ⟨g,rfl,fun e=>by omega,?_⟩
   have h1:(xB0 l)[k]? = some (.int .i64 (nI l k)):=by
    unfold xB0 nI;rw [List.getElem?_map,List.getElem?_eq_getElem hk];simp [hk]
   rw [←hct,List.getElem?_take] at h1;split at h1
   ·have h4:cur[k]? = some (.int .i64 (nI l k)):=by rw [←h1];simp
    simp [World.cell?,hh,h4]
   ·cases h1
 ·by_cases hk:k<l.length
  ·unfold nI;have:l.getD k 0=l[k]:=by simp [hk]
   rw [this];exact hn _ (List.getElem_mem hk)
  ·unfold nI;have:l.getD k 0=0:=by simp [Nat.le_of_not_lt hk]
   rw [this];exact ⟨by decide,by decide⟩
theorem lS1 {d:Nat} (h:d<18):3≤(gD0 d).length:=by
 match d,h with
 | 0,_=>decide
 | 1,_=>decide
 | 2,_=>decide
 | 3,_=>decide
 | 4,_=>decide
 | 5,_=>decide
 | 6,_=>decide
 | 7,_=>decide
 | 8,_=>decide
 | 9,_=>decide
 | 10,_=>decide
 | 11,_=>decide
 | 12,_=>decide
 | 13,_=>decide
 | 14,_=>decide
 | 15,_=>decide
 | 16,_=>decide
 | 17,_=>decide
 | d+18,h=>exact absurd h (by omega)
theorem DsIs.setT {W:World} {lo sb n:Nat} {x:DsK} {H:DsS} (h:DsIs W lo sb x H n) {pb:Nat} {t0 t:ByteArray} (hp:W.heap[pb]? = some (.cells #[.string t0] 9 (0,0))) (hlo:lo≤pb):DsIs (W.setCell ⟨pb,0,none⟩ (.string t)) lo sb x H n:=by
 have ho:Out (fun j=>j=pb) W (W.setCell ⟨pb,0,none⟩ (.string t)):=aN0 W ⟨pb,0,none⟩ _;have hc:W.cell? ⟨pb,0,none⟩=some (.string t0):=aA0 (j:=0) hp rfl;refine ⟨aE0 h.box ho (fun e=>by have:=h.slt.1;omega),⟨h.slt.1,Nat.le_trans h.slt.2 ho.size⟩,fun h0=>?_,fun M hM=>?_⟩
 ·obtain ⟨tb,h1,h2,h3,h4,h5,cs,f,h6⟩:=h.rows h0
  have hne:¬tb=pb:=fun e=>by
   rw [e,hp] at h6;injection h6 with h6;injection h6 with _ h7 _;exact absurd h7 (by decide)
  exact ⟨tb,h1,bR0 h2 ho hne,h3,h4,h5,cs,f,aE0 h6 ho hne⟩
 ·obtain ⟨h1,h2⟩:=h.eg M hM;refine ⟨h1.outT ho (fun j hj e=>h1.farU hj _ _ _ (Or.inr rfl) (e ▸ hp)) ⟨?_,fun j u hj=>?_⟩,h2⟩
  ·by_cases e:(⟨pb,0,none⟩:Addr)=⟨x.k.tb,0,none⟩
   ·have:=h1.tab.1;rw [←e,hc] at this;cases this
   ·rw [World.cell?_setCell_other (h:=e)];exact h1.tab.1
  ·have hu:=h1.tab.2 j u hj
   by_cases e:(⟨pb,0,none⟩:Addr)=⟨x.k.cb,0+j,none⟩
   ·rw [←e,hc] at hu;obtain ⟨z,hz⟩:=sH0 _ j u hj;rw [hz] at hu;cases hu
   ·rw [World.cell?_setCell_other (h:=e)];exact hu
theorem hN1 {w w5 w6:World} {lo sb:Nat} (hb:Below w.heap.size w w5) (ho:Out (DsW w5 lo sb) w5 w6):Out (DsW w lo sb) w w6:=
 (Out.of_below hb lR7).trans ho fun k hk=>by
  by_cases hlt:k<w.heap.size
  ·refine Or.inl (hk.imp id fun ⟨h1,h2⟩=>⟨h1,fun c t f ht=>?_⟩);rw [←hb.block k hlt];exact h2 c t f ht
  ·exact Or.inr (Nat.le_of_not_lt hlt)
theorem DsVars.outW {w w':World} {lo sb:Nat} (h:DsVars w) (ho:Out (DsW w lo sb) w w') (hB:12≤lo) (hsb:12≤sb) (hw:12≤w.heap.size):DsVars w':=
 h.below (ho.below (fun j hj=>hj.elim (fun e=>by omega) (fun e=>by have:=e.1;omega)) hw) lR7
section
variable {tmps:Array Value} {pb:Nat} {R:Ending→World→Prop} {W:World}
theorem xH0 (hres:∀(W:World) (t:ByteArray),W.cell? ⟨pb,0,none⟩=some (.string t)→(results Tryz.f11 tmps).run Tryz.prog W=.ok (.string t) W) {t:ByteArray} (hc:W.cell? ⟨pb,0,none⟩=some (.string t)) (h:R (.returned (.string t)) W):
  bodyPostD Tryz.prog Tryz.f11 R Exit.ret { tmps:=tmps,defers:=[{ target:=.fn (.func 41) #[.pointer (some ⟨pb,0,none⟩)],args:=#[] }] } W:=by
 refine leaves_cons (f:=41) (args:=#[.pointer (some ⟨pb,0,none⟩)]) (by simp) (by simp [go_sem]) ?_;refine (gU1 ⟨pb,0,none⟩ _).mono ?_;rintro e u' w'' ⟨rfl,rfl,rfl⟩;exact ⟨_,hres _ _ hc,h⟩
theorem mJ0 (hres:∀(W:World) (t:ByteArray),W.cell? ⟨pb,0,none⟩=some (.string t)→(results Tryz.f11 tmps).run Tryz.prog W=.ok (.string t) W) {t:ByteArray} {m:Int} (hp:W.heap[pb]? = some (.cells #[.string t] 9 (0,0))) (hm:in64 m) (ht:eZ0 W)
  (h:∀w1,Below W.heap.size W w1→R (.returned (.string (baOf (errT m)))) (w1.setCell ⟨pb,0,none⟩ (.string (baOf (errT m))))):
  bodyPostD Tryz.prog Tryz.f11 R (Exit.panic [{ v:=.iface 26 (.int .i64 m),recovered:=false }]) { tmps:=tmps,defers:=[{ target:=.fn (.func 41) #[.pointer (some ⟨pb,0,none⟩)],args:=#[] }] } W:=by
 have hc:W.cell? ⟨pb,0,none⟩=some (.string t):=aA0 (j:=0) hp rfl;refine leaves_cons (f:=41) (args:=#[.pointer (some ⟨pb,0,none⟩)]) (by simp) (by simp [go_sem]) ?_;refine (pU1 ⟨pb,0,none⟩ m t [] W hc (aB0 (j:=0) hp) hm ht).mono ?_;rintro e u' w'' ⟨rfl,rfl,w1,hb,rfl⟩;have hc1:=(hb.cell (World.block_lt_of_cell? W _ hc)).trans hc;exact ⟨_,hres _ _ (World.cell?_setCell_same' _ _ _ (by rw [hc1];rfl)),h w1 hb⟩
end
section
variable {w W:World} {lo sb n n':Nat} {s:ByteArray} {x':DsK} {H':DsS} {t0:ByteArray}
theorem sJ0 {t:List UInt8} (ho:Out (DsW w lo sb) w W) (h:DsIs W lo sb x' H' n') (hp:W.heap[w.heap.size]? = some (.cells #[.string t0] 9 (0,0))) (hlo:lo≤w.heap.size) (hn:n'=n∨(n'=n+1∧3≤s.size)):
  hH1 w lo sb n s ((0,t),H') (.returned (.string (baOf t))) (W.setCell ⟨w.heap.size,0,none⟩ (.string (baOf t))):=
 ⟨rfl,eH0 ho lR7,x',n',h.setT hp hlo,hn⟩
theorem iQ0 {t:List UInt8} {m:Int} (hm:m≠0) (ho:Out (DsW w lo sb) w W) (h:DsIs W lo sb x' H' n') (hp:W.heap[w.heap.size]? = some (.cells #[.string t0] 9 (0,0))) (hlo:lo≤w.heap.size) (hn:n'=n∨(n'=n+1∧3≤s.size)) {w1:World} (hb:Below W.heap.size W w1):
  hH1 w lo sb n s ((m,t),H') (.returned (.string (baOf (errT m)))) (w1.setCell ⟨w.heap.size,0,none⟩ (.string (baOf (errT m)))):=
 ⟨by unfold ansT;rw [if_neg hm],eH0 (bA0 ho (Out.of_below hb lR7)) lR7,x',n',(h.below hb).setT (aD0 hp hb lR7) hlo,hn⟩
end
set_option maxRecDepth 8000 in
set_option maxHeartbeats 2000000 in
theorem lT1 (s:ByteArray) (lo sb mb n:Nat) (x:DsK) (H:DsS) (w:World) (h:DsIs w lo sb x H n) (hd:cJ0 w mb sb) (hr:H.rs.length≤10000) (hs:s.size≤4000) (hv:DsVars w) (hB:12≤lo) (hsb:12≤sb) (hn:n≤1900):
  Calls Tryz.prog 11 #[.pointer (some ⟨sb,0,none⟩),.map (some mb),.string s] w fun e w'=>hH1 w lo sb n s (dH0 s H) e w':=by
 have hmf:∀(fn:Fn) (first cap:Array Value) (w:World),(Instr.makeFunc fn first cap).run Tryz.prog w=.ok (.func fn first cap) w:=fun _ _ _ _=>rfl
 have H1:Hid (DsIs w lo sb x H n):=h;have HD:Hid (cJ0 w mb sb):=hd;have HV:Hid (DsVars w):=hv;clear h hd hv;go_enter_defers Tryz.func11,Tryz.ntmps11;go_wp2_with fail;have hx:=heap_alloc_new w (.cells #[.string ⟨#[]⟩] 9);have hb:=bel1 w (.cells #[.string ⟨#[]⟩] 9);generalize w.alloc (.cells #[.string ⟨#[]⟩] 9)=w1 at hx hb ⊢;have HX:Hid (w1.heap[w.heap.size]? = some (.cells #[.string ⟨#[]⟩] 9 (0,0))):=hx;have HB:Hid (Below w.heap.size w w1):=hb;clear hx hb;refine (pW1 s w1 (by omega)).mono ?_;rintro e w2 ⟨A,rfl,hA,hown,hb2⟩;have HB2:Hid (Below w.heap.size w w2):=aC0 HB.out hb2;have HX2:Hid (w2.heap[w.heap.size]? = some (.cells #[.string ⟨#[]⟩] 9 (0,0))):=aD0 HX.out hb2 lR7;have HLN:Hid ((fY0 s).length≤s.size+1):=uZ0 s;have HLD:Hid (dH0 s H=match fY0 s with
 | []=>((0,[111,107]),H)
 | w::ws=>match tZ0 w.data.toList with
  | none=>((3,[]),H)
  | some d=>if kP0 (dZ0 d) ws.length=false then ((3,[]),H) else match eY0 ws with
   | none=>((3,[]),H)
   | some l=>if mayD (gL0 d) H=false then ((6,[]),H) else aX0 d l H):=rfl
 have HSZ:Hid (∀t∈fY0 s,t.size≤s.size):=fun t ht=>bO1 ht
 have cT:=aA0 (j:=0) HX2.out rfl;have fT:=aB0 (j:=0) HX2.out;clear hb2;have HIS:Hid (DsIs w2 lo sb x H n):=H1.out.below HB2.out;have HO2:Hid (Out (DsW w lo sb) w w2):=Out.of_below HB2.out lR7;cases hw:fY0 s with
 | nil=>
  rw [hw] at hown HLD;clear hown hA;simp only [List.length_nil];go_wp2_with fail;rw [HLD.out];refine xH0 (fun W t ht=>?_) (t:=baOf [111,107]) (World.cell?_setCell_same' _ _ _ (by rw [cT];rfl)) (sJ0 HO2.out HIS.out HX2.out H1.out.slt.2 (Or.inl rfl));simp [results,Tryz.results11,go_sem,ht]
 | cons t ws=>
  rw [hw] at hown HLD HLN HSZ
  have HWS:Hid (∀j u,(t::ws)[j]? = some u→w2.cell? ⟨A,j,none⟩=some (.string u)):=fun j u hj=>by
   have:=hI1 hown hj;exact this
  have HAL:Hid (w1.heap.size≤A):=hA;clear hown hA;simp only [List.length_cons];have c0:w2.cell? ⟨A,0,none⟩=some (.string t):=HWS.out 0 t rfl
  have HK:Hid (ws.length≤4000):=by
   have:=HLN.out;simp only [List.length_cons] at this;show ws.length≤4000;omega
  have HTZ:Hid (t.size≤s.size):=HSZ.out t (List.mem_cons_self ..);have hd2:cJ0 w2 mb sb:=HD.out.same (HB2.out.block mb HD.out.lt);have hk:=HK.out;generalize hkk:ws.length=k at hk ⊢;have HKK:Hid (ws.length=k):=hkk;have hz:(((k:Int)+1) == 0)=false:=beq_eq_false_iff_ne.2 (by omega);clear hkk;cases hdi:tZ0 t.data.toList with
  | none=>
   have hlk:=hd2.look_no (s:=t) (by have:=HTZ.out;unfold maxLen;omega) hdi;have HLD2:Hid (dH0 s H=((3,[]),H)):=by show _=_;rw [HLD.out];simp only [hdi]
   clear hd2;go_wp2_with fail;rw [HLD2.out];have hb3:=bel1 w2 (.cells #[.int .i64 0,.int .i64 0,.nilFunc] 69);refine mJ0 (fun W t ht=>?_) (aD0 HX2.out hb3 lR7) ⟨by decide,by decide⟩ ((HV.out.below HB2.out (Nat.le_trans hB H1.out.slt.2)).below hb3 (Nat.le_trans (Nat.le_trans hB H1.out.slt.2) HB2.out.size)).tab (fun wq hq=>iQ0 (by decide) (bA0 HO2.out (Out.of_below hb3 lR7)) (HIS.out.below hb3) (aD0 HX2.out hb3 lR7) H1.out.slt.2 (Or.inl rfl) hq);simp [results,Tryz.results11,go_sem,ht]
  | some d=>
   have hlk:=hd2.look_yes (s:=t) (by have:=HTZ.out;unfold maxLen;omega) hdi;unfold kG1 at hlk;have HD18:Hid (d<18):=(gW0 hdi).1
   have H3:Hid (3≤s.size):=by
    show 3≤s.size;have h1:=HTZ.out;have h2:=(gW0 hdi).2;have h3:t.size=t.data.toList.length:=by rw [Array.length_toList];rfl
    have h4:=lS1 (gW0 hdi).1;rw [h2] at h3;omega
   have HLD2:Hid (dH0 s H=if kP0 (dZ0 d) ws.length=false then ((3,[]),H) else match eY0 ws with
    | none=>((3,[]),H)
    | some l=>if mayD (gL0 d) H=false then ((6,[]),H) else aX0 d l H):=by show _=_;rw [HLD.out];simp only [hdi]
   have hen:=lR1 d (gW0 hdi).1;have HDD:Hid _:=sO1 d (gW0 hdi).1;generalize uB0.getD d 0=f at hlk hen HDD;clear hd2 HLD hdi hw;go_wp2_with fail;have hb3:=bel1 w2 (.cells #[.int .i64 (dZ0 d),.int .i64 (gL0 d),.func (.func f) #[.pointer (some ⟨sb,0,none⟩)] #[]] 69);have hx3:=heap_alloc_new w2 (.cells #[.int .i64 (dZ0 d),.int .i64 (gL0 d),.func (.func f) #[.pointer (some ⟨sb,0,none⟩)] #[]] 69);generalize w2.alloc (.cells #[.int .i64 (dZ0 d),.int .i64 (gL0 d),.func (.func f) #[.pointer (some ⟨sb,0,none⟩)] #[]] 69)=w3 at hb3 hx3 ⊢;refine (sD1 (dZ0 d) (gL0 d) (.func (.func f) #[.pointer (some ⟨sb,0,none⟩)] #[]) k w3 (by omega)).mono ?_;rintro e w4 ⟨rfl,hb4⟩;have HB24:Hid (Below w2.heap.size w2 w4):=aC0 hb3 hb4;have HB4:Hid (Below w.heap.size w w4):=aC0 HB2.out HB24.out;have HX4:Hid _:=aD0 HX2.out HB24.out lR7;have HIS4:Hid (DsIs w4 lo sb x H n):=HIS.out.below HB24.out;have HBD:Hid _:=aD0 hx3 hb4 lR7;have HV4:Hid (DsVars w4):=HV.out.below HB4.out (Nat.le_trans hB H1.out.slt.2);have HO4:Hid (Out (DsW w lo sb) w w4):=Out.of_below HB4.out lR7;clear hb3 hx3 hb4 hlk cT fT c0;cases hfit:kP0 (dZ0 d) k with
   | false=>
    go_wp2_with fail;have HL3:Hid (dH0 s H=((3,[]),H)):=by show _=_;rw [HLD2.out,HKK.out,if_pos hfit]
    rw [HL3.out];refine mJ0 (fun W t ht=>?_) HX4.out ⟨by decide,by decide⟩ HV4.out.tab (fun wq hq=>iQ0 (by decide) HO4.out HIS4.out HX4.out H1.out.slt.2 (Or.inl rfl) hq);simp [results,Tryz.results11,go_sem,ht]
   | true=>
    have HL3:Hid (dH0 s H=match eY0 ws with
     | none=>((3,[]),H)
     | some l=>if mayD (gL0 d) H=false then ((6,[]),H) else aX0 d l H):=by show _=_;rw [HLD2.out,HKK.out,if_neg (by rw [hfit];decide)]
    have HFI:Hid (kP0 (dZ0 d) k=true):=hfit
    have HNUM:Hid (∀o:Nat,k=0∨o=1→Calls Tryz.prog 45 #[.slice (some ⟨A,o,none⟩) k k] w4 fun e w'=>gO1 ws w4 w' e∧Below w4.heap.size w4 w'):=fun o ho=>by
     have:=gP1 (some ⟨A,o,none⟩) k ws w4 (fun j u hj=>⟨A,o,rfl,by
      have hjl:j<ws.length:=(List.getElem?_eq_some_iff.1 hj).1;have h1:=HWS.out (j+1) u hj;have h2:=(HB24.out.cell (World.block_lt_of_cell? w2 _ h1)).trans h1;have hk0:=HKK.out;rcases ho with ho | ho
      ·omega
      ·rw [ho,Nat.add_comm 1 j];exact h2⟩) (fun u hu=>by have:=HSZ.out u (List.mem_cons_of_mem _ hu);omega) (by have:=HK.out;omega) HV4.out (by have:=HB4.out.size;have:=H1.out.slt.2;omega)
     rw [HKK.out] at this;exact this
    clear hfit HLD2 HWS HSZ HLN;go_wp2_with fail
    ·have h0:k=0:=by assumption
     subst h0;refine (HNUM.out 0 (Or.inl rfl)).mono ?_;rintro e w5 ⟨hN,hb5⟩;have HB5:Hid (Below w.heap.size w w5):=aC0 HB4.out hb5;have HX5:Hid _:=aD0 HX4.out hb5 lR7;have HIS5:Hid (DsIs w5 lo sb x H n):=HIS4.out.below hb5;have HBD5:Hid _:=aD0 HBD.out hb5 lR7;have HV5:Hid (DsVars w5):=HV.out.below HB5.out (Nat.le_trans hB H1.out.slt.2);have HO5:Hid (Out (DsW w lo sb) w w5):=Out.of_below HB5.out lR7;rcases hN with ⟨hnone,rfl⟩ | ⟨l,v,hsome,rfl,hown⟩
     ·have HL4:Hid (dH0 s H=((3,[]),H)):=by show _=_;rw [HL3.out,hnone]
      clear hb5 hnone;go_wp2_with fail;rw [HL4.out];refine mJ0 (fun W t ht=>?_) HX5.out ⟨by decide,by decide⟩ HV5.out.tab (fun wq hq=>iQ0 (by decide) HO5.out HIS5.out HX5.out H1.out.slt.2 (Or.inl rfl) hq);simp [results,Tryz.results11,go_sem,ht]
     ·have HLL:Hid (l.length=ws.length):=hE0 ws hsome;have HL4:Hid (dH0 s H=if mayD (gL0 d) H=false then ((6,[]),H) else aX0 d l H):=by show _=_;rw [HL3.out,hsome]
      have HAR:Hid (ArgIs w5 sb (hJ1 v) l):=hM1 hown (by have:=H1.out.slt;have:=HB4.out.size;omega) (mZ0 ws hsome);obtain ⟨la,cl,rfl⟩:=lX0 hown;have cW:=aA0 (j:=1) HBD5.out rfl;have cF:=aA0 (j:=2) HBD5.out rfl;clear hb5 hown hsome;go_wp2_with fail;refine (sE1 lo sb n x H (gL0 d) w5 HIS5.out).mono ?_;rintro e w6 ⟨rfl,hw6⟩;subst hw6;cases hmay:mayD (gL0 d) H with
      | false=>
       have HL5:Hid (dH0 s H=((6,[]),H)):=by show _=_;rw [HL4.out,if_pos hmay]
       clear hmay;go_wp2_with fail;rw [HL5.out];refine mJ0 (fun W t ht=>?_) HX5.out ⟨by decide,by decide⟩ HV5.out.tab (fun wq hq=>iQ0 (by decide) HO5.out HIS5.out HX5.out H1.out.slt.2 (Or.inl rfl) hq);simp [results,Tryz.results11,go_sem,ht]
      | true=>
       have HL5:Hid (dH0 s H=aX0 d l H):=by show _=_;rw [HL4.out,if_neg (by rw [hmay];decide)]
       have HMY:Hid (mayD (gL0 d) H=true):=hmay;clear hmay;go_wp2_with fail;refine (HDD.out la cl l lo sb n x H w6 HIS5.out HAR.out (by rw [HLL.out,HKK.out];exact HFI.out) HMY.out (by rw [HLL.out];have:=HK.out;omega) hr HV5.out hB hn).mono ?_;rintro e w7 ⟨hE,hO,x',hI⟩;have HSM:Hid (bT0 (aX0 d l H).1.1):=lY0 d l H;have HX7:Hid _:=aE0 HX5.out hO (fun hq=>hq.elim (fun e=>by have:=H1.out.slt;omega) (fun hq=>hq.2 _ _ _ (Or.inr rfl) HX5.out));have HO7:Hid (Out (DsW w lo sb) w w7):=hN1 HB5.out hO;have HV7:Hid (DsVars w7):=HV5.out.outW hO hB hsb (by have:=HIS5.out.slt.2;omega);have cT:=aA0 (j:=0) HX7.out rfl;have fT:=aB0 (j:=0) HX7.out;generalize aX0 d l H=R at HL5 HSM hE hI;obtain ⟨⟨m,tt⟩,H'⟩:=R;have HI7:Hid (DsIs w7 lo sb x' H' (n+1)):=hI;clear hI hO;rcases hE with ⟨h0,rfl⟩ | ⟨h0,rfl⟩
       ·go_wp2_with fail;rw [HL5.out];obtain rfl:m=0:=h0;refine xH0 (fun W t ht=>?_) (t:=baOf tt) (World.cell?_setCell_same' _ _ _ (by rw [cT];rfl)) (sJ0 HO7.out HI7.out HX7.out H1.out.slt.2 (Or.inr ⟨rfl,H3.out⟩));simp [results,Tryz.results11,go_sem,ht]
       ·go_wp2_with fail;rw [HL5.out];refine mJ0 (fun W t ht=>?_) HX7.out (nA0 HSM.out) HV7.out.tab (fun wq hq=>iQ0 h0 HO7.out HI7.out HX7.out H1.out.slt.2 (Or.inr ⟨rfl,H3.out⟩) hq);simp [results,Tryz.results11,go_sem,ht]
    ·refine (HNUM.out 1 (Or.inr rfl)).mono ?_;rintro e w5 ⟨hN,hb5⟩;have HB5:Hid (Below w.heap.size w w5):=aC0 HB4.out hb5;have HX5:Hid _:=aD0 HX4.out hb5 lR7;have HIS5:Hid (DsIs w5 lo sb x H n):=HIS4.out.below hb5;have HBD5:Hid _:=aD0 HBD.out hb5 lR7;have HV5:Hid (DsVars w5):=HV.out.below HB5.out (Nat.le_trans hB H1.out.slt.2);have HO5:Hid (Out (DsW w lo sb) w w5):=Out.of_below HB5.out lR7;rcases hN with ⟨hnone,rfl⟩ | ⟨l,v,hsome,rfl,hown⟩
     ·have HL4:Hid (dH0 s H=((3,[]),H)):=by show _=_;rw [HL3.out,hnone]
      clear hb5 hnone;go_wp2_with fail;rw [HL4.out];refine mJ0 (fun W t ht=>?_) HX5.out ⟨by decide,by decide⟩ HV5.out.tab (fun wq hq=>iQ0 (by decide) HO5.out HIS5.out HX5.out H1.out.slt.2 (Or.inl rfl) hq);simp [results,Tryz.results11,go_sem,ht]
     ·have HLL:Hid (l.length=ws.length):=hE0 ws hsome;have HL4:Hid (dH0 s H=if mayD (gL0 d) H=false then ((6,[]),H) else aX0 d l H):=by show _=_;rw [HL3.out,hsome]
      have HAR:Hid (ArgIs w5 sb (hJ1 v) l):=hM1 hown (by have:=H1.out.slt;have:=HB4.out.size;omega) (mZ0 ws hsome);obtain ⟨la,cl,rfl⟩:=lX0 hown;have cW:=aA0 (j:=1) HBD5.out rfl;have cF:=aA0 (j:=2) HBD5.out rfl;clear hb5 hown hsome;go_wp2_with fail;refine (sE1 lo sb n x H (gL0 d) w5 HIS5.out).mono ?_;rintro e w6 ⟨rfl,hw6⟩;subst hw6;cases hmay:mayD (gL0 d) H with
      | false=>
       have HL5:Hid (dH0 s H=((6,[]),H)):=by show _=_;rw [HL4.out,if_pos hmay]
       clear hmay;go_wp2_with fail;rw [HL5.out];refine mJ0 (fun W t ht=>?_) HX5.out ⟨by decide,by decide⟩ HV5.out.tab (fun wq hq=>iQ0 (by decide) HO5.out HIS5.out HX5.out H1.out.slt.2 (Or.inl rfl) hq);simp [results,Tryz.results11,go_sem,ht]
      | true=>
       have HL5:Hid (dH0 s H=aX0 d l H):=by show _=_;rw [HL4.out,if_neg (by rw [hmay];decide)]
       have HMY:Hid (mayD (gL0 d) H=true):=hmay;clear hmay;go_wp2_with fail;refine (HDD.out la cl l lo sb n x H w6 HIS5.out HAR.out (by rw [HLL.out,HKK.out];exact HFI.out) HMY.out (by rw [HLL.out];have:=HK.out;omega) hr HV5.out hB hn).mono ?_;rintro e w7 ⟨hE,hO,x',hI⟩;have HSM:Hid (bT0 (aX0 d l H).1.1):=lY0 d l H;have HX7:Hid _:=aE0 HX5.out hO (fun hq=>hq.elim (fun e=>by have:=H1.out.slt;omega) (fun hq=>hq.2 _ _ _ (Or.inr rfl) HX5.out));have HO7:Hid (Out (DsW w lo sb) w w7):=hN1 HB5.out hO;have HV7:Hid (DsVars w7):=HV5.out.outW hO hB hsb (by have:=HIS5.out.slt.2;omega);have cT:=aA0 (j:=0) HX7.out rfl;have fT:=aB0 (j:=0) HX7.out;generalize aX0 d l H=R at HL5 HSM hE hI;obtain ⟨⟨m,tt⟩,H'⟩:=R;have HI7:Hid (DsIs w7 lo sb x' H' (n+1)):=hI;clear hI hO;rcases hE with ⟨h0,rfl⟩ | ⟨h0,rfl⟩
       ·go_wp2_with fail;rw [HL5.out];obtain rfl:m=0:=h0;refine xH0 (fun W t ht=>?_) (t:=baOf tt) (World.cell?_setCell_same' _ _ _ (by rw [cT];rfl)) (sJ0 HO7.out HI7.out HX7.out H1.out.slt.2 (Or.inr ⟨rfl,H3.out⟩));simp [results,Tryz.results11,go_sem,ht]
       ·go_wp2_with fail;rw [HL5.out];refine mJ0 (fun W t ht=>?_) HX7.out (nA0 HSM.out) HV7.out.tab (fun wq hq=>iQ0 h0 HO7.out HI7.out HX7.out H1.out.slt.2 (Or.inr ⟨rfl,H3.out⟩) hq);simp [results,Tryz.results11,go_sem,ht]
end Go.Proofs.YtaelphbianmckaaGreatDoor
