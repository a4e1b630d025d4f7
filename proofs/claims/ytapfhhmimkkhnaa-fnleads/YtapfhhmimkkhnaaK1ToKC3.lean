/-
  What most have is committed: holdersOf, committing; l11Commit.
  What most have is committed: committing (of who leads).
  What most have is committed: l11Commit (of who leads).
-/
import Derived.Test.YtapfhhmimkkhnaaA4ToU1
import Derived.Deep.Cut
namespace Go.Proofs.Ytapfhhmimkkhnaa
open Go.RowKit
set_option linter.unusedVariables false
set_option maxRecDepth 100000
set_option maxHeartbeats 4000000
def cI (x:Int):List Int→Nat
 | []=>0
 | m::r=>(if x≤m then 1 else 0)+cI x r
theorem cI_drop (x:Int) (l:List Int) (k:Nat) (h:k<l.length):cI x (l.drop k)=(if x≤l[k] then 1 else 0)+cI x (l.drop (k+1)):=by
 rw [List.drop_eq_getElem_cons h];rfl
theorem cI_le (x:Int) (l:List Int):cI x l≤l.length:=by
 induction l with
 | nil=>simp [cI]
 | cons m r ih=>simp only [cI,List.length_cons];split <;>omega
def zr_ (te pe co:Int) (log:List En) (mt:List Int):Nat→Int
 | 0=>co
 | k+1=>if co<((k+1:Nat):Int) then (if (log.getD k En.zero).t=te∧pe<2*(cI ((k+1:Nat):Int) mt:Int) then ((k+1:Nat):Int) else zr_ te pe co log mt k) else co
theorem comTo_low (te pe co:Int) (log:List En) (mt:List Int) (k:Nat) (h:¬co<(k:Int)):zr_ te pe co log mt k=co:=by
 cases k with
 | zero=>rfl
 | succ k=>simp only [zr_];rw [if_neg h]
theorem comTo_hit (te pe co:Int) (log:List En) (mt:List Int) (k:Nat) (hk:k<log.length) (h:co<((k+1:Nat):Int)) (h1:log[k].t=te) (h2:pe<2*(cI ((k+1:Nat):Int) mt:Int)):zr_ te pe co log mt (k+1)=((k+1:Nat):Int):=by
 simp only [zr_];rw [if_pos h,if_pos ⟨by simp [hk,h1],h2⟩]
theorem comTo_miss (te pe co:Int) (log:List En) (mt:List Int) (k:Nat) (hk:k<log.length) (h:co<((k+1:Nat):Int)) (h1:¬(log[k].t=te∧pe<2*(cI ((k+1:Nat):Int) mt:Int))):zr_ te pe co log mt (k+1)=zr_ te pe co log mt k:=by
 simp only [zr_];rw [if_pos h,if_neg (by simpa [hk] using h1)]
theorem holdersOf_any (id pe te vo co ro:Int) (vl vv vm:Value) (log:List En) (vs mt:List Int) (x:Int) (w:World) (hl:ER w vl log) (hv:IL w vv vs) (hm:IL w vm mt) (nm:mt.length≤1048576):
  Calls Try.prog 114 #[.agg #[id,pe,te,vo,vl,co,ro,vv,vm],x] w fun e w'=>e= .returned (.int .i64 (cI x mt))∧Below w.heap.size w w':=by
 obtain⟨la,lc,rfl,hlc⟩:=hl;obtain⟨va,vc,rfl,hvc⟩:=hv;obtain⟨ma,mc,rfl,hmc⟩:=hm;have hB:=zc_ w (.cells #[id,pe,te,vo,.slice la log.length lc,co,ro,.slice va vs.length vc,.slice ma mt.length mc] 26);have X:=Box.new w #[id,pe,te,vo,.slice la log.length lc,co,ro,.slice va vs.length vc,.slice ma mt.length mc] 26;obtain⟨W0,hW0⟩:∃W0,W0=w.alloc (.cells #[id,pe,te,vo,.slice la log.length lc,co,ro,.slice va vs.length vc,.slice ma mt.length mc] 26):=⟨_,rfl⟩;rw [←hW0] at hB X;obtain⟨hxl,x0,x1,x2,x3,x4,x5,x6,x7,x8⟩:=X.e9;clear hlc hvc;go_enter Try.func114,Try.ntmps114;go_wp2;rw [←hW0];clear hW0
 go_loopw [5,11] (fun z i wr=>∃k n:Nat,k≤mt.length∧i= .int .i64 k∧z= .int .i64 n∧n+cI x (mt.drop k)=cI x mt∧n≤k∧wr=W0) (fun _ i _=>mt.length-(intOf i).toNat)
 case atStart=>exact⟨0,0,Nat.zero_le _,rfl,rfl,by simp,Nat.le_refl _,rfl⟩
 case round=>
  obtain⟨k,n,hk,rfl,rfl,hg,hnk,rfl⟩:=hrel;by_cases hlt:k<mt.length
  ·obtain⟨b,off,rfl,hbl,hcell⟩:=hmc (by intro e;simp [e] at hlt);have hc0:=(hB.cell (p:=⟨b,off+k,none⟩) hbl).trans (hcell k hlt);have HD:Hid (n+((if x≤mt[k] then 1 else 0)+cI x (mt.drop (k+1)))=cI x mt):=by show _=_;rw [←cI_drop x mt k hlt];exact hg
   clear hcell hmc hg;generalize mt[k]=s at*;by_cases hx:x≤s
   ·have HD2:Hid (n+1+cI x (mt.drop (k+1))=cI x mt):=by show _=_;rw [←HD.out,if_pos hx];omega
    clear HD;go_wp2;go_roundw
    case rel=>exact⟨k+1,n+1,by omega,by go_num,by go_num,HD2.out,by omega,by first | rfl | trivial⟩
    case measure=>simp [intOf];omega
   ·have HD2:Hid (n+cI x (mt.drop (k+1))=cI x mt):=by show _=_;rw [←HD.out,if_neg hx];omega
    clear HD;go_wp2;go_roundw
    case rel=>exact⟨k+1,n,by omega,by go_num,by go_num,HD2.out,by omega,by first | rfl | trivial⟩
    case measure=>simp [intOf];omega
  ·obtain rfl:k=mt.length:=by omega
   have HD:Hid (n=cI x mt):=by show _=_;rw [←hg,List.drop_length];simp [cI]
   clear hmc hg;go_wp2;go_ret;exact⟨by rw [HD.out];try rfl,hB⟩
set_option maxHeartbeats 8000000
theorem committing_any (id pe te vo co:Int) (vl vv vm:Value) (log:List En) (vs mt:List Int) (w:World) (hl:ER w vl log) (hv:IL w vv vs) (hm:IL w vm mt) (nl:log.length≤1048576) (nm:mt.length≤1048576) (hc0:0≤co):
  Calls Try.prog 58 #[.agg #[id,pe,te,vo,vl,co,(2:Int),vv,vm]] w fun e w'=>e= .returned (.agg #[id,pe,te,vo,vl,(zr_ te pe co log mt log.length:Int),(2:Int),vv,vm])∧Below w.heap.size w w':=by
 have hm0:=hm;have hl0:=hl;have hv0:=hv;obtain⟨la,lc,rfl,hlc⟩:=hl;obtain⟨va,vc,rfl,hvc⟩:=hv;obtain⟨ma,mc,rfl,hmc⟩:=hm;obtain⟨W0,hW0,hB,X,Y,hz00⟩:=al2 w [id,pe,te,vo,.slice la log.length lc,co,(2:Int),.slice va vs.length vc,.slice ma mt.length mc] 26 zN 26;clear hvc hmc;go_enter Try.func58,Try.ntmps58;go_wp2;rw [←hW0];clear hW0
 go_loopw [3] (fun i wr=>∃k:Nat,k≤log.length∧i= .int .i64 k∧zr_ te pe co log mt log.length=zr_ te pe co log mt k∧Below W0.heap.size W0 wr) (fun i _=>(intOf i).toNat)
 case atStart=>exact⟨log.length,Nat.le_refl _,rfl,rfl,Below.refl _ _⟩
 case round=>
  obtain⟨k,hk,rfl,hg,hb⟩:=hrel;have Xr:=X.below hb;have Yr:=Y.below hb;have hBr:=za_ hB hb;clear X Y;by_cases hgt:co<(k:Int)
  ·obtain⟨j,rfl⟩:∃j,k=j+1:=⟨k-1,by omega⟩;have hj:j<log.length:=by omega
   obtain⟨b,off,rfl,hbl,hcell⟩:=hlc (by intro e;simp [e] at hj);have d0:=(hBr.cell (p:=⟨b,off+j*2,none⟩) hbl).trans (hcell j hj).1;have hj1:(((j+1:Nat):Int)-1)=(j:Int):=by omega
   have hbW:b<wr.heap.size:=by have:=hBr.size;omega
   have HM:=comTo_miss te pe co log mt j hj hgt;have HH:=comTo_hit te pe co log mt j hj hgt;rw [←hg] at HM HH;have hcast:((j+1:Nat):Int)=(j:Int)+1:=by omega
   rw [hcast] at HM HH hgt hj1;clear hcast;have KH:=fun x:WC wr.heap.size wr=>holdersOf_any id pe te vo co 2 _ _ _ log vs mt ((j:Int)+1) x.w (hl0.below (hBr.trans (x.ok.mono hBr.size))) (hv0.below (hBr.trans (x.ok.mono hBr.size))) (hm0.below (hBr.trans (x.ok.mono hBr.size))) nm;have hcl:=cI_le ((j:Int)+1) mt;have KA:=fun x:WC wr.heap.size wr=>areMost_any id pe te vo co 2 ((cI ((j:Int)+1) mt:Nat):Int) (.slice (some ⟨b,off,none⟩) log.length lc) (.slice va vs.length vc) (.slice ma mt.length mc) x.w (by omega) (by omega);obtain⟨R,HR⟩:∃R,Hid (zr_ te pe co log mt log.length=R):=⟨_,rfl⟩;rw [HR.out] at HM HH;clear hlc hcell hg hl0 hv0 hm0;generalize log[j].t=s at*;generalize (cI ((j:Int)+1) mt:Nat)=n at*;by_cases h1:s=te
   ·replace h1:=h1.symm;subst h1;have hxb:=Xr.1;have q0:=fun x:WC wr.heap.size wr=>(x.ok.cell (p:=⟨w.heap.size,0,none⟩) hxb).trans (Xr.2.1 0 _ rfl);have q1:=fun x:WC wr.heap.size wr=>(x.ok.cell (p:=⟨w.heap.size,1,none⟩) hxb).trans (Xr.2.1 1 _ rfl);have q2:=fun x:WC wr.heap.size wr=>(x.ok.cell (p:=⟨w.heap.size,2,none⟩) hxb).trans (Xr.2.1 2 _ rfl);have q3:=fun x:WC wr.heap.size wr=>(x.ok.cell (p:=⟨w.heap.size,3,none⟩) hxb).trans (Xr.2.1 3 _ rfl);have q4:=fun x:WC wr.heap.size wr=>(x.ok.cell (p:=⟨w.heap.size,4,none⟩) hxb).trans (Xr.2.1 4 _ rfl);have q5:=fun x:WC wr.heap.size wr=>(x.ok.cell (p:=⟨w.heap.size,5,none⟩) hxb).trans (Xr.2.1 5 _ rfl);have q6:=fun x:WC wr.heap.size wr=>(x.ok.cell (p:=⟨w.heap.size,6,none⟩) hxb).trans (Xr.2.1 6 _ rfl);have q7:=fun x:WC wr.heap.size wr=>(x.ok.cell (p:=⟨w.heap.size,7,none⟩) hxb).trans (Xr.2.1 7 _ rfl);have q8:=fun x:WC wr.heap.size wr=>(x.ok.cell (p:=⟨w.heap.size,8,none⟩) hxb).trans (Xr.2.1 8 _ rfl);have qd:=fun x:WC wr.heap.size wr=>(x.ok.cell (p:=⟨b,off+j*2,none⟩) hbW).trans d0;have hne:Nonempty (WC wr.heap.size wr):=⟨⟨_,Below.refl _ _⟩⟩;obtain⟨xl,x0,x1,x2,x3,x4,x5,x6,x7,x8⟩:=Xr.e9;go_wp2_with fail;refine wp_region_calm (B:=wr.heap.size) (W:=wr) (by kernel_rfl) (by kernel_rfl) (Below.refl _ _) ?_
    repeat (go_big_quiet_step (first | (go_at_call 114;with_reducible exact calm_of_below (Nat.le_refl _) (KH _)) | (go_at_call 113;with_reducible exact calm_of_below (Nat.le_refl _) (KA _))))
    refine wpQuiet_nil ?_;intro _ hw';obtain⟨x,hx⟩:=hw';subst hx;have hbx:=x.ok;replace Xr:=Xr.below hbx;replace Yr:=Yr.below hbx;replace hBr:=za_ hBr hbx;have hb2:=za_ hb hbx;clear KH KA q0 q1 q2 q3 q4 q5 q6 q7 q8 qd hne hbx hb d0 xl x0 x1 x2 x3 x4 x5 x6 x7 x8;generalize x.w=wr at*;clear x;by_cases h2:pe<2*(n:Int)
    ·have HE:Hid (R=(j:Int)+1):=HH (by first | rfl | trivial) h2;have hd3:decide (pe<2*(n:Int))=true:=by simp [h2]
     clear HM HH hb2;have xl:=Xr.1;have x5:=Xr.2.1 5 _ rfl;have e5:=Xr.2.2 5;go_upto_region 8 with fail;obtain⟨W2,hW2⟩:∃W2,W2=wr.setCell ⟨w.heap.size,5,none⟩ (.int .i64 ((j:Int)+1)):=⟨_,rfl⟩;have hCa:Chg (fun k=>k=w.heap.size) wr W2:=by rw [hW2];exact Chg.setCell (S:=fun k=>k=w.heap.size) (Chg.refl _ _) rfl _
     have X2:Box W2 w.heap.size [id,pe,te,vo,.slice (some ⟨b,off,none⟩) log.length lc,((j:Int)+1:Int),(2:Int),.slice va vs.length vc,.slice ma mt.length mc]:=by rw [hW2];exact Xr.set 5 _ (by simp)
     have Y2:=hCa.box Yr (by omega);have hB2:=hBr.trans (hCa.b1 hBr.size (by omega));rw [←hW2];clear hW2 hCa Xr Yr hBr xl x5 e5;have hC:=zo_ W2 (w.heap.size+1) id pe te vo (.slice (some ⟨b,off,none⟩) log.length lc) (.int .i64 ((j:Int)+1)) (.int .i64 2) (.slice va vs.length vc) (.slice ma mt.length mc);have Z:=zp_ Y2 id pe te vo (.slice (some ⟨b,off,none⟩) log.length lc) (.int .i64 ((j:Int)+1)) (.int .i64 2) (.slice va vs.length vc) (.slice ma mt.length mc);have hBE:=hB2.trans (hC.b1 hB2.size (by omega));clear hC;obtain⟨xl,x0,x1,x2,x3,x4,x5,x6,x7,x8⟩:=X2.e9;obtain⟨e0,e1,e2,e3,e4,e5,e6,e7,e8⟩:=X2.f9;obtain⟨yl,y0,y1,y2,y3,y4,y5,y6,y7,y8⟩:=Y2.e9;obtain⟨f0,f1,f2,f3,f4,f5,f6,f7,f8⟩:=Y2.f9;obtain⟨hzl,t0,t1,t2,t3,t4,t5,t6,t7,t8⟩:=Z.e9;clear Z X2 Y2 hB2;unfold put9 at*;go_wp2;exact bodyPost_ret (v:= .agg #[id,pe,te,vo,.slice (some ⟨b,off,none⟩) log.length lc,((j:Int)+1:Int),(2:Int),.slice va vs.length vc,.slice ma mt.length mc]) (by simp [results,Try.results58,go_sem,t0,t1,t2,t3,t4,t5,t6,t7,t8]) rfl ⟨by rw [HR.out,HE.out],hBE⟩
    ·have HE:Hid (R=zr_ te pe co log mt j):=HM (fun h=>h2 h.2);have hd3:decide (pe<2*(n:Int))=false:=by simp;omega
     clear HM HH Xr Yr;go_wp2;go_roundw
     case rel=>exact⟨j,by omega,by go_num,HR.out.trans HE.out,hb2⟩
     case measure=>simp [intOf]
   ·have hd1:decide (s=te)=false:=by simp [h1]
    have hd2:(s==te)=false:=by simp [h1]
    have HE:Hid (R=zr_ te pe co log mt j):=HM (fun h=>h1 h.1);obtain⟨xl,x0,x1,x2,x3,x4,x5,x6,x7,x8⟩:=Xr.e9;clear HM HH KH KA Yr;go_wp2_with fail
    go_quiet (fail)
    go_wp2;go_roundw
    case rel=>exact⟨j,by omega,by go_num,HR.out.trans HE.out,below_drewN hb _⟩
    case measure=>simp [intOf]
  ·have HE:Hid (zr_ te pe co log mt log.length=co):=by show _=_;rw [hg,comTo_low _ _ _ _ _ _ hgt]
   clear hlc hg hb;have hC:=zo_ wr (w.heap.size+1) id pe te vo (.slice la log.length lc) co (.int .i64 2) (.slice va vs.length vc) (.slice ma mt.length mc);have Z:=zp_ Yr id pe te vo (.slice la log.length lc) co (.int .i64 2) (.slice va vs.length vc) (.slice ma mt.length mc);have hBE:=hBr.trans (hC.b1 hBr.size (by omega));clear hC;obtain⟨xl,x0,x1,x2,x3,x4,x5,x6,x7,x8⟩:=Xr.e9;obtain⟨e0,e1,e2,e3,e4,e5,e6,e7,e8⟩:=Xr.f9;obtain⟨yl,y0,y1,y2,y3,y4,y5,y6,y7,y8⟩:=Yr.e9;obtain⟨f0,f1,f2,f3,f4,f5,f6,f7,f8⟩:=Yr.f9;obtain⟨hzl,t0,t1,t2,t3,t4,t5,t6,t7,t8⟩:=Z.e9;clear Z Xr Yr hBr;unfold put9 at*;go_wp2;exact bodyPost_ret (v:= .agg #[id,pe,te,vo,.slice la log.length lc,co,(2:Int),.slice va vs.length vc,.slice ma mt.length mc]) (by simp [results,Try.results58,go_sem,t0,t1,t2,t3,t4,t5,t6,t7,t8]) rfl ⟨by rw [HE.out],hBE⟩
theorem l11Commit_any (id pe te vo co:Int) (vl vv vm:Value) (log:List En) (vs mt:List Int) (w:World) (hl:ER w vl log) (hv:IL w vv vs) (hm:IL w vm mt) (nl:log.length≤1048576) (nm:mt.length≤1048576) (hc0:0≤co):
  Calls Try.prog 61 #[.agg #[id,pe,te,vo,vl,co,(2:Int),vv,vm]] w fun e w'=>e= .returned (.agg #[id,pe,te,vo,vl,(zr_ te pe co log mt log.length:Int),(2:Int),vv,vm])∧Below w.heap.size w w':=by
 have hm0:=hm;have hl0:=hl;have hv0:=hv;obtain⟨la,lc,rfl,hlc⟩:=hl;obtain⟨va,vc,rfl,hvc⟩:=hv;obtain⟨ma,mc,rfl,hmc⟩:=hm;obtain⟨W0,hW0,hB,X,Y,hz00⟩:=al2 w [id,pe,te,vo,.slice la log.length lc,co,(2:Int),.slice va vs.length vc,.slice ma mt.length mc] 26 zN 26;clear hvc;go_enter Try.func61,Try.ntmps61;go_wp2;rw [←hW0];clear hW0
 go_loopw [3] (fun i wr=>∃k:Nat,k≤log.length∧i= .int .i64 k∧zr_ te pe co log mt log.length=zr_ te pe co log mt k∧Below W0.heap.size W0 wr) (fun i _=>(intOf i).toNat)
 case atStart=>exact⟨log.length,Nat.le_refl _,rfl,rfl,Below.refl _ _⟩
 case round=>
  obtain⟨k,hk,rfl,hg,hb⟩:=hrel;have Xr:=X.below hb;have Yr:=Y.below hb;have hBr:=za_ hB hb;clear X Y;by_cases hgt:co<(k:Int)
  ·obtain⟨j,rfl⟩:∃j,k=j+1:=⟨k-1,by omega⟩;have hj:j<log.length:=by omega
   obtain⟨b,off,rfl,hbl,hcell⟩:=hlc (by intro e;simp [e] at hj);have d0:=(hBr.cell (p:=⟨b,off+j*2,none⟩) hbl).trans (hcell j hj).1;have hj1:(((j+1:Nat):Int)-1)=(j:Int):=by omega
   have HM:=comTo_miss te pe co log mt j hj hgt;have HH:=comTo_hit te pe co log mt j hj hgt;rw [←hg] at HM HH;have hcast:((j+1:Nat):Int)=(j:Int)+1:=by omega
   rw [hcast] at HM HH hgt hj1;clear hcast;have hcl:=cI_le ((j:Int)+1) mt;obtain⟨R,HR⟩:∃R,Hid (zr_ te pe co log mt log.length=R):=⟨_,rfl⟩;rw [HR.out] at HM HH;have HM:Hid _:=HM;have HH:Hid _:=HH;clear hlc hcell hg hl0 hv0 hm0;generalize log[j].t=s at*;obtain⟨xl,x0,x1,x2,x3,x4,x5,x6,x7,x8⟩:=Xr.e9;go_wp2
   go_loopw [4,19] (fun z i wr2=>∃m n:Nat,m≤mt.length∧i= .int .i64 m∧z= .int .i64 n∧n+cI ((j:Int)+1) (mt.drop m)=cI ((j:Int)+1) mt∧n≤m∧wr2=wr) (fun _ i _=>mt.length-(intOf i).toNat)
   case atStart=>exact⟨0,0,Nat.zero_le _,rfl,rfl,by simp,Nat.le_refl _,rfl⟩
   case round=>
    obtain⟨m,n,hm,rfl,rfl,hi,hnm,rfl⟩:=hrel;by_cases hlt:m<mt.length
    ·obtain⟨b2,off2,rfl,hbl2,hcell2⟩:=hmc (by intro e;simp [e] at hlt);have hc2:=(hBr.cell (p:=⟨b2,off2+m,none⟩) hbl2).trans (hcell2 m hlt);have HD:Hid (n+((if (j:Int)+1≤mt[m] then 1 else 0)+cI ((j:Int)+1) (mt.drop (m+1)))=cI ((j:Int)+1) mt):=by show _=_;rw [←cI_drop _ mt m hlt];exact hi
     clear hcell2 hmc hi;generalize mt[m]=q at*;by_cases hx:(j:Int)+1≤q
     ·have HD2:Hid (n+1+cI ((j:Int)+1) (mt.drop (m+1))=cI ((j:Int)+1) mt):=by show _=_;rw [←HD.out,if_pos hx];omega
      clear HD;go_wp2;go_roundw
      case rel=>exact⟨m+1,n+1,by omega,by go_num,by go_num,HD2.out,by omega,by first | rfl | trivial⟩
      case measure=>simp [intOf];omega
     ·have HD2:Hid (n+cI ((j:Int)+1) (mt.drop (m+1))=cI ((j:Int)+1) mt):=by show _=_;rw [←HD.out,if_neg hx];omega
      clear HD;go_wp2;go_roundw
      case rel=>exact⟨m+1,n,by omega,by go_num,by go_num,HD2.out,by omega,by first | rfl | trivial⟩
      case measure=>simp [intOf];omega
    ·obtain rfl:m=mt.length:=by omega
     have HN:cI ((j:Int)+1) mt=n:=by rw [←hi,List.drop_length];simp [cI]
     have HM2:=HM.out;have HH2:=HH.out;rw [HN] at HM2 HH2;clear hmc hi HN hcl HM HH;by_cases h2:pe<2*(n:Int)
     ·have hd3:decide (pe<2*(n:Int))=true:=by simp [h2]
      by_cases h1:s=te
      ·replace h1:=h1.symm;subst h1;have HE:Hid (R=(j:Int)+1):=HH2 (by first | rfl | trivial) h2;clear HM2 HH2;go_wp2_with fail
       go_quiet (fail)
       obtain⟨wd,hwd⟩:∃wd,wd=wr.drewN nq:=⟨_,rfl⟩;have Xd:=Xr.below (below_drewN (Below.refl wr.heap.size wr) nq);have Yd:=Yr.below (below_drewN (Below.refl wr.heap.size wr) nq);have hBd:=below_drewN hBr nq;rw [←hwd] at Xd Yd hBd ⊢;clear hwd hb Xr Yr hBr d0 xl x0 x1 x2 x3 x4 x5 x6 x7 x8;have xl:=Xd.1;have x5:=Xd.2.1 5 _ rfl;have e5:=Xd.2.2 5;go_upto_region 13 with fail;obtain⟨W2,hW2⟩:∃W2,W2=wd.setCell ⟨w.heap.size,5,none⟩ (.int .i64 ((j:Int)+1)):=⟨_,rfl⟩;have hCa:Chg (fun k=>k=w.heap.size) wd W2:=by rw [hW2];exact Chg.setCell (S:=fun k=>k=w.heap.size) (Chg.refl _ _) rfl _
       have X2:Box W2 w.heap.size [id,pe,te,vo,.slice (some ⟨b,off,none⟩) log.length lc,((j:Int)+1:Int),(2:Int),.slice va vs.length vc,.slice ma mt.length mc]:=by rw [hW2];exact Xd.set 5 _ (by simp)
       have Y2:=hCa.box Yd (by omega);have hB2:=hBd.trans (hCa.b1 hBd.size (by omega));rw [←hW2];clear hW2 hCa Xd Yd hBd xl x5 e5;have hC:=zo_ W2 (w.heap.size+1) id pe te vo (.slice (some ⟨b,off,none⟩) log.length lc) (.int .i64 ((j:Int)+1)) (.int .i64 2) (.slice va vs.length vc) (.slice ma mt.length mc);have Z:=zp_ Y2 id pe te vo (.slice (some ⟨b,off,none⟩) log.length lc) (.int .i64 ((j:Int)+1)) (.int .i64 2) (.slice va vs.length vc) (.slice ma mt.length mc);have hBE:=hB2.trans (hC.b1 hB2.size (by omega));clear hC;obtain⟨xl,x0,x1,x2,x3,x4,x5,x6,x7,x8⟩:=X2.e9;obtain⟨e0,e1,e2,e3,e4,e5,e6,e7,e8⟩:=X2.f9;obtain⟨yl,y0,y1,y2,y3,y4,y5,y6,y7,y8⟩:=Y2.e9;obtain⟨f0,f1,f2,f3,f4,f5,f6,f7,f8⟩:=Y2.f9;obtain⟨hzl,t0,t1,t2,t3,t4,t5,t6,t7,t8⟩:=Z.e9;clear Z X2 Y2 hB2;unfold put9 at*;go_wp2;exact bodyPost_ret (v:= .agg #[id,pe,te,vo,.slice (some ⟨b,off,none⟩) log.length lc,((j:Int)+1:Int),(2:Int),.slice va vs.length vc,.slice ma mt.length mc]) (by simp [results,Try.results61,go_sem,t0,t1,t2,t3,t4,t5,t6,t7,t8]) rfl ⟨by rw [HR.out,HE.out],hBE⟩
      ·have hd4:(s==te)=false:=by simp [h1]
       have HE:Hid (R=zr_ te pe co log mt j):=HM2 (fun h=>h1 h.1);clear HM2 HH2 Yr;go_wp2_with fail
       go_quiet (fail)
       go_wp2;go_roundw
       case rel=>exact⟨j,by omega,by go_num,HR.out.trans HE.out,below_drewN hb _⟩
       case measure=>simp [intOf]
     ·have hd3:decide (pe<2*(n:Int))=false:=by simp;omega
      have HE:Hid (R=zr_ te pe co log mt j):=HM2 (fun h=>h2 h.2);clear HM2 HH2 Yr;go_wp2_with fail
      go_quiet (fail)
      go_wp2;go_roundw
      case rel=>exact⟨j,by omega,by go_num,HR.out.trans HE.out,below_drewN hb _⟩
      case measure=>simp [intOf]
  ·have HE:Hid (zr_ te pe co log mt log.length=co):=by show _=_;rw [hg,comTo_low _ _ _ _ _ _ hgt]
   clear hlc hg hb hmc;have hC:=zo_ wr (w.heap.size+1) id pe te vo (.slice la log.length lc) co (.int .i64 2) (.slice va vs.length vc) (.slice ma mt.length mc);have Z:=zp_ Yr id pe te vo (.slice la log.length lc) co (.int .i64 2) (.slice va vs.length vc) (.slice ma mt.length mc);have hBE:=hBr.trans (hC.b1 hBr.size (by omega));clear hC;obtain⟨xl,x0,x1,x2,x3,x4,x5,x6,x7,x8⟩:=Xr.e9;obtain⟨e0,e1,e2,e3,e4,e5,e6,e7,e8⟩:=Xr.f9;obtain⟨yl,y0,y1,y2,y3,y4,y5,y6,y7,y8⟩:=Yr.e9;obtain⟨f0,f1,f2,f3,f4,f5,f6,f7,f8⟩:=Yr.f9;obtain⟨hzl,t0,t1,t2,t3,t4,t5,t6,t7,t8⟩:=Z.e9;clear Z Xr Yr hBr;unfold put9 at*;go_wp2;exact bodyPost_ret (v:= .agg #[id,pe,te,vo,.slice la log.length lc,co,(2:Int),.slice va vs.length vc,.slice ma mt.length mc]) (by simp [results,Try.results61,go_sem,t0,t1,t2,t3,t4,t5,t6,t7,t8]) rfl ⟨by rw [HE.out],hBE⟩
end Go.Proofs.Ytapfhhmimkkhnaa
