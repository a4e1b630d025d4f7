/-
  LeadersOf: the program's side.
-/
import Derived.Test.YtapfhhmimkkhnaaGreatTZToCU
import Derived.Test.YtapfhhmimkkhnaaGreatCSc
import Derived.Test.YtapfhhmimkkhnaaGreatA2ToKC3
import Derived.Deep.Cut
import Derived.Shelf.SlSortCmp.NoneTotal
namespace Go.Proofs
open Go.Shelf Go.RowKit Go.Lib Go.Sort
namespace YtapfhhmimkkhnaaGreat
open Go.Maps
set_option maxHeartbeats 32000000
set_option linter.unusedVariables false
set_option maxRecDepth 100000
theorem implLd_any (vn vm vl:Value) (N:List Nv) (M:List Mv) (L:List Ld) (w:World) (h:CR w vn vm vl N M L) (hs:CS N M L):
  Calls Tryz.prog 10 #[.agg #[vn,vm,vl]] w fun e w'=>∃u,e= .returned (.tuple #[u,.bool (zV_ (N.map Nv.n) (M.map Mv.q) L)])∧w'.ownsRow w.heap.size 34 2 u (ldR (zV_ (N.map Nv.n) (M.map Mv.q) L) (N.map Nv.n)).length (zQ_ (ldR (zV_ (N.map Nv.n) (M.map Mv.q) L) (N.map Nv.n)))∧Below w.heap.size w w':=by
 have K:=implGoodC_any vn vm vl N M L _ (h.below (zb_ w (.cells #[vn,vm,vl] 30))) hs;obtain⟨⟨na,nc,hcn⟩,⟨xa,xc,hcm⟩,ya,yc,hcl⟩:=h.shapes;subst hcn;subst hcm;subst hcl;have hB:=zb_ w (.cells #[.slice na N.length nc,.slice xa M.length xc,.slice ya L.length yc] 30);have X:=Box.new w #[.slice na N.length nc,.slice xa M.length xc,.slice ya L.length yc] 30;have HEN:=fun k (hk:k<N.length) W (hb:Below w.heap.size w W)=>(h.ne k hk).below hb;have HEM:=fun k (hk:k<M.length) W (hb:Below w.heap.size w W)=>(h.me k hk).below hb;obtain⟨a1,c1,e1,hcN⟩:=h.n;obtain⟨a2,c2,e2,hcM⟩:=h.m;obtain⟨a3,c3,e3,hcL⟩:=h.l;simp only [Value.slice.injEq,true_and] at e1 e2 e3;obtain⟨rfl,rfl⟩:=e1;obtain⟨rfl,rfl⟩:=e2;obtain⟨rfl,rfl⟩:=e3;have hNl:=hs.n;have hMl:=hs.m;have hLl:=hs.l;clear h;have HG:=fun (e:zV_ (N.map Nv.n) (M.map Mv.q) L=true)=>goodC_ld e;clear hcM hcL HEM HEN hs;generalize zV_ (N.map Nv.n) (M.map Mv.q) L=ok at*
 cases ok with
 | false=>
  clear hcN HG;show Calls Tryz.prog 10 _ w fun e w'=>∃u,e= .returned (.tuple #[u,false])∧w'.ownsRow w.heap.size 34 2 u 0 (zQ_ [])∧Below w.heap.size w w';go_enter Tryz.func10,Tryz.ntmps10;go_wp2_with fail;refine K.mono ?_;rintro e w1 ⟨rfl,hb⟩;replace hB:=za_ hB hb;clear K hb X;go_wp2;go_ret2;exact⟨_,rfl,World.ownsRow_nil _ _ _ _,hB⟩
 | true=>
 obtain⟨p1,p7,Hid1,Hte1⟩:=HG rfl;have HID:Hid _:=Hid1;have HTE:Hid _:=Hte1;clear HG Hid1 Hte1;obtain⟨R,HR⟩:∃R,Hid (ldR true (N.map Nv.n)=R):=⟨ldR true (N.map Nv.n),rfl⟩;rw [HR.out];have HRS:Hid (ldS (N.map Nv.n) 1000=R):=by show _=_;rw [←HR.out];simp [ldR]
 clear HR;have hml:(N.map Nv.n).length=N.length:=List.length_map _;have HAT:=fun k (h:k<N.length)=>hiT_at N k h;generalize N.map Nv.n=Nn at*;go_enter Tryz.func10,Tryz.ntmps10;go_wp2_with fail;refine K.mono ?_;rintro e w1 ⟨rfl,hb⟩;replace hB:=za_ hB hb;replace X:=X.below hb;clear K hb;have hz1:=hB.size;obtain⟨hxl,x0,x1,x2⟩:=X.c3;obtain⟨b,off,rfl,hbl,hcell⟩:=hcN (by intro e;simp [e] at p1);have HML:Hid (Nn.length=N.length):=hml;clear hcN hml;go_wp2;clear hxl x0 x1 x2
 go_loopw [4,13] (fun z i wr=>∃(k:Nat),k≤N.length∧i= .int .i64 k∧wr.ownsRow w1.heap.size 34 2 z (ldI Nn k).length (zQ_ (ldI Nn k))∧Below w1.heap.size w1 wr) (fun _ i _=>N.length-(intOf i).toNat)
 case atStart=>exact⟨0,Nat.zero_le _,rfl,World.ownsRow_nil _ _ _ _,Below.refl _ _⟩
 case round=>
  obtain⟨k,hk,rfl,hown,hbz⟩:=hrel;by_cases hlt:k<N.length
  ·obtain⟨za,zc,rfl⟩:=ze_ hown;have hBr:=za_ hB hbz;obtain⟨z0,z1,z2,z3,z4,z5,z6,z7,z8⟩:=hcell k hlt;have hc0:=(hBr.cell (p:=⟨b,off+k*9,none⟩) hbl).trans z0;have hc1:=(hBr.cell (p:=⟨b,off+k*9+1,none⟩) hbl).trans z1;have hc2:=(hBr.cell (p:=⟨b,off+k*9+2,none⟩) hbl).trans z2;have hc3:=(hBr.cell (p:=⟨b,off+k*9+3,none⟩) hbl).trans z3;have hc4:=(hBr.cell (p:=⟨b,off+k*9+4,none⟩) hbl).trans z4;have hc5:=(hBr.cell (p:=⟨b,off+k*9+5,none⟩) hbl).trans z5;have hc6:=(hBr.cell (p:=⟨b,off+k*9+6,none⟩) hbl).trans z6;have hc7:=(hBr.cell (p:=⟨b,off+k*9+7,none⟩) hbl).trans z7;have hc8:=(hBr.cell (p:=⟨b,off+k*9+8,none⟩) hbl).trans z8;clear hBr z0 z1 z2 z3 z4 z5 z6 z7 z8;have hLl2:=ldI_len Nn k;have HREL:Hid (ldI Nn (k+1)=ldI Nn k++(if N[k].n.ro=2 then [ldOf N[k].n] else [])):=by show _=_;simp only [ldI];rw [HAT k hlt]
   clear HAT HRS hcell HID HTE HML;generalize N[k]=s at*;generalize ldI Nn k=TL at*;generalize HT2:ldI Nn (k+1)=T2 at*;have HT2h:Hid (ldI Nn (k+1)=T2):=HT2;clear HT2;obtain⟨⟨id,pe,te,vo,co,ro,log,vs,mt⟩,la,lc,va,vc,ma,mc⟩:=s;dsimp only [ldOf] at hc0 hc1 hc2 hc3 hc4 hc5 hc6 hc7 hc8 HREL;have BA:=zb_ wr (.cells #[id,pe,te,vo,.slice la log.length lc,co,ro,.slice va vs.length vc,.slice ma mt.length mc] 42);have X0:=Box.new wr #[id,pe,te,vo,.slice la log.length lc,co,ro,.slice va vs.length vc,.slice ma mt.length mc] 42;replace hown:=zd_ hown BA;replace hbz:=za_ hbz BA;clear BA;obtain⟨W1,hW1⟩:∃W1,W1=wr.alloc (.cells #[id,pe,te,vo,.slice la log.length lc,co,ro,.slice va vs.length vc,.slice ma mt.length mc] 42):=⟨_,rfl⟩;rw [←hW1] at X0 hown hbz;by_cases hr:ro=2;rotate_left
   ·have HV:Hid (T2=TL):=by show _=_;rw [HREL.out,if_neg hr,List.append_nil]
    have hrb:(ro==2)=false:=by simp [hr]
    clear HREL X0;have HO:Hid (W1.ownsRow w1.heap.size 34 2 (.slice za TL.length zc) TL.length (zQ_ TL)):=hown;clear hown;rw [hW1] at HO hbz;clear hW1;go_wp2;go_roundw
    case rel=>exact⟨k+1,by omega,by go_num,by rw [HT2h.out,HV.out];exact HO.out,hbz⟩
    case measure=>simp [intOf];omega
   have HV:Hid (T2=TL++ [⟨te,id⟩]):=by show _=_;rw [HREL.out,if_pos hr]
   subst hr;clear HREL;obtain⟨hx0,v0,v1,v2,v3,v4,v5,v6,v7,v8⟩:=X0.e9;go_upto_region 8 with fail;rw [←hW1];clear hW1 X0;have BA:=zb_ W1 (.cells #[te,id] 34);have NB:=Box.new W1 #[te,id] 34;have o2:=zd_ hown BA;have hz2:=hbz.size;replace hbz:=za_ hbz BA;clear BA hown;go_wp2_with (at_builtin;refine wpList_append_ld _ rfl _ _ rfl rfl w1.heap.size _ TL.length TL rfl o2 W1.heap.size ⟨te,id⟩ rfl NB (by omega) (by simp;omega) ?_;intro v' w' hown hgr;refine zs_.go ?_);replace hbz:=hbz.grown hgr (by simp;omega) (fun q hq=>zg_ o2 q hq);clear hgr o2 NB v0 v1 v2 v3 v4 v5 v6 v7 v8 hx0;obtain⟨va',vc',rfl⟩:=ze_ hown;unfold zs_;have HO:Hid (w'.ownsRow w1.heap.size 34 2 (.slice va' (TL.length+1) vc') (TL.length+1) (zQ_ (TL++ [⟨te,id⟩]))):=hown;clear hown;go_wp2;go_roundw
   case rel=>exact⟨k+1,by omega,by go_num,by rw [HT2h.out,HV.out,List.length_append];exact HO.out,hbz⟩
   case measure=>simp [intOf];omega
  ·have hkn:k=N.length:=by omega
   have HSE:Hid (∀d:List Ld,d.Perm (ldI Nn k)→(∀i j (hi:i<d.length) (hj:j<d.length),i<j→¬ltP d[j] d[i])→d=R):=fun d hp hs=>by
    rw [←HRS.out];rw [hkn,←HML.out] at hp;exact sorted_eq Nn HID.out HTE.out d hp hs
   have hkd:¬(k:Int)<(N.length:Int):=by omega
   have hll:=ldI_len Nn k;have hB2:=za_ hB hbz;clear HAT HRS hcell HID HTE HML hkn;generalize ldI Nn k=l at*;rcases hown.2 with⟨rfl,h0⟩ | ⟨g,cap,cur,rfl,hbase,hb,h1,h2,h3,h4⟩
   ·obtain rfl:l= []:=List.length_eq_zero_iff.1 h0;have HR0:Hid ([]=R):=HSE.out [] (List.Perm.refl _) (fun i j hi=>by simp at hi);have hcon:=fun w=>AnyF.slices_SortFunc_none Tryz.sortLeads none 0 (.func (.func 35) #[] #[]) w
    change ∀w,Calls Tryz.prog 34 _ _ _ at hcon
    clear hown HSE;go_wp2_with fail;refine (hcon _).mono ?_;rintro e w' ⟨rfl,rfl⟩;clear hcon;go_wp2;go_ret2;exact⟨_,rfl,by rw [←HR0.out];exact World.ownsRow_nil _ _ _ _,hB2⟩
   ·have eg:∀args w,(callFunc 35 args).run Tryz.prog w= .ok (.enter 35 args) w:=enters_of Tryz.func35 (by kernel_rfl) rfl;have hcon:=AnyQ.slices_SortFunc Tryz.sortLeads 2 Tryz.isAgg34 Tryz.sizeOf34 encL (fun _=>rfl) (fun x v hv=>by simp [encL] at hv;rcases hv with rfl | rfl <;>rfl) cmpL swoL 35 #[] g 0 cap l.toArray wr eg (cmpLaysL g 0 _ wr) (holdsL hown) (Array.getElem?_eq_some_iff.1 hb).1 (by simp;omega)
    change Calls Tryz.prog 34 _ _ _ at hcon
    simp only [List.size_toArray] at hcon;have HROW:Hid _:=hown;clear hown hb h1 h2 h3 h4 cur;go_wp2_with fail;refine hcon.mono ?_;rintro e w' ⟨rfl,d',m,os,hp,hs,rfl⟩;have hdz:d'.size=l.length:=by simpa using hp.1
    have hperm:d'.toList.Perm l:=by
     have h2:d'.toList.length=l.length:=by rw [Array.length_toList];exact hdz
     have h4:(List.take l.length d'.toList).Perm l:=by simpa [hp.1] using hp.2.2
     rw [List.take_of_length_le (by omega)] at h4;exact h4
    have hdl:d'.toList=R:=by
     refine HSE.out _ hperm fun i j hi hj hij=> ?_;simp only [Array.length_toList] at hi hj;have h2:=hs i j (Nat.zero_le _) hij (by omega);rw [lt_ld,decide_eq_false_iff_not,getElem!_pos d' j hj,getElem!_pos d' i hi] at h2;simpa [ltP] using h2
    have hO:(sortWorldK encL 2 wr g 0 m d' os).ownsRow w1.heap.size 34 2 (.slice (some ⟨g,0,none⟩) l.length cap) l.length (zQ_ d'.toList):=ownsRow_sortedK (m:=m) (os:=os) (d:=d'.toList) (by rw [Array.length_toList];exact hdz) HROW.out rfl;have hG:wr.grownBy (sortWorldK encL 2 wr g 0 m d' os) (some g):=grownBy_sortedK _;have HLR:Hid (R.length=l.length):=by show _=_;rw [←hdl,Array.length_toList];exact hdz
    have hO2:(sortWorldK encL 2 wr g 0 m d' os).ownsRow w.heap.size 34 2 (.slice (some ⟨g,0,none⟩) l.length cap) R.length (zQ_ R):=by rw [HLR.out,←hdl];exact zf_ hO hz1
    have hB3:=hB2.grown hG hB2.size (fun j hj=>by cases hj;omega);generalize sortWorldK encL 2 wr g 0 m d' os=w3 at*;clear HROW hcon hp hs HSE hO hperm hdl hdz hG HLR eg;go_wp2;go_ret2;exact⟨_,rfl,hO2,hB3⟩
end YtapfhhmimkkhnaaGreat
end Go.Proofs
