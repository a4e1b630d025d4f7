/-
  A number put to a rising list: the specification's l11Put.
-/
import Derived.Test.YtapfhhmimkkhnaaVIToSP
import Derived.Test.YtapfhhmimkkhnaaN1ToA3
import Derived.Test.YtapfhhmimkkhnaaM2bToH0
namespace Go.Proofs.Ytapfhhmimkkhnaa
open Go.RowKit Go.Maps
set_option maxHeartbeats 16000000
set_option linter.unusedVariables false
set_option maxRecDepth 100000
theorem l11Put_any (va:Option Addr) (vc:Nat) (vs:List Int) (x:Int) (w:World) (hv:IL w (.slice va vs.length vc) vs) (hcap:vs.length≤vc) (hs:vs.Pairwise (· ≤ ·)) (nv:vs.length≤7):
  Calls Try.prog 176 #[.slice va vs.length vc,x] w fun e w'=>(∃u,e= .returned u∧w'.ownsRow w.heap.size 3 1 u (putV vs x).length ((putV vs x).map (.int .i64)))∧Below w.heap.size w w':=by
 have HC:=cp_lt x vs hs;have hcle:vs.countP (fun v=>decide (v<x))≤vs.length:=List.countP_le_length;have HP:Hid (putV vs x=vs.take (vs.countP fun v=>decide (v<x))++x::vs.drop (vs.countP fun v=>decide (v<x))):=rfl;have HL:Hid ((putV vs x).length=vs.length+1):=putV_length vs x;generalize vs.countP (fun v=>decide (v<x))=c at*;have HTL:Hid ((vs.take c).length=c):=by show _=_;simp;omega
 have HDL:Hid ((vs.drop c).length=vs.length-c):=by show _=_;simp
 generalize putV vs x=pv at*;have SL:=fun w=>sli_to va vs.length vc c w (by omega);obtain⟨a2,SF,IF⟩:=sli_from w va vc c vs hv hcap hcle;have IT:=IL_to hv hcle;obtain⟨_,_,hve,hvc⟩:=hv;simp only [Value.slice.injEq,true_and] at hve;obtain⟨rfl,rfl⟩:=hve;clear hs;go_enter Try.func176,Try.ntmps176;go_wp2
 go_loopw [5] (fun i wr=>∃k:Nat,k≤c∧i= .int .i64 k∧wr=w) (fun i _=>vs.length-(intOf i).toNat)
 case atStart=>exact⟨0,Nat.zero_le _,rfl,rfl⟩
 case round=>
  obtain⟨k,hk,rfl,hwr⟩:=hrel;rw [hwr];clear hwr;by_cases hlt:k<vs.length
  ·have HK:=HC k hlt;obtain⟨b,off,rfl,hb,hcell⟩:=hvc (by intro e;simp [e] at hlt);have c0:=hcell k hlt;clear hcell hvc HC;generalize vs[k]=v at*;have hki:(k:Int)<(vs.length:Int):=by omega
   have hk0:(0:Int)≤(k:Int):=by omega
   by_cases hvx:v<x
   ·have hkc:=HK.1 hvx;clear HK IT IF SL SF HP HL HTL HDL hcap hcle;go_wp2;go_roundw
    case rel=>exact⟨k+1,by omega,by go_num,by first | trivial | rfl⟩
    case measure=>simp [intOf];omega
   ·obtain rfl:k=c:=by
     by_cases h:k<c
     ·exact absurd (HK.2 h) hvx
     ·omega
    clear HK;go_wp2_with (at_builtin;refine zB_.go ?_);unfold zB_;refine zw_ _ rfl _ _ rfl rfl w.heap.size _ 0 [] rfl (World.ownsRow_nil _ _ _ _) _ (vs.take k) rfl IT (by rw [HTL.out];omega) (Nat.le_refl _) ?_;intro u1 w1 o1 hgr;replace hgr:w.grownBy w1 none:=hgr;have hb:=(Below.refl w.heap.size w).grown hgr (Nat.le_refl _) (fun j hj=>by cases hj);simp only [Nat.zero_add,List.nil_append] at o1;rw [HTL.out] at o1;obtain⟨ua,uc,rfl⟩:=zf_ o1;have hz1:=hb.size;have gg:=ze_ o1;clear hgr;have X:=Box.new w1 #[x] 3;have hBa:=zc_ w1 (.cells #[x] 3);have o1a:=zd_ o1 hBa;have hB2:=za_ hb hBa;have hI:IL (w1.alloc (.cells #[x] 3)) (.slice (some ⟨w1.heap.size,0,none⟩) 1 1) [x]:=⟨_,_,rfl,fun _=>⟨w1.heap.size,0,rfl,by simp,fun i hi=>by
     obtain rfl:i=0:=by simpa using hi
     exact X.2.1 0 _ rfl⟩⟩
    clear X hBa o1 hb;go_wp2_with (at_builtin;refine zB_.go ?_);obtain⟨W1,hW1⟩:∃W,W=w1.alloc (.cells #[x] 3):=⟨_,rfl⟩;rw [←hW1] at o1a hB2 hI;rw [←hW1];unfold zB_;refine zw_ _ rfl _ _ rfl rfl w.heap.size _ k (vs.take k) rfl o1a _ [x] rfl hI (by simp;omega) hB2.size ?_;intro u2 w2 o2 hgr;have hb:=hB2.grown hgr hB2.size (fun j hj=>gg j hj);obtain⟨ub,ud,rfl⟩:=zf_ o2;have hz2:=hb.size;have gg2:=ze_ o2;have IF2:=IF.below hb;clear hgr o1a hB2 hI hW1 gg IF;go_wp2_with (at_builtin;refine zB_.go ?_);unfold zB_;refine zw_ _ rfl _ _ rfl rfl w.heap.size _ (k+1) (vs.take k++ [x]) rfl o2 _ (vs.drop k) rfl IF2 (by rw [HDL.out];omega) hb.size ?_;intro u3 w3 o3 hgr;have hb3:=hb.grown hgr hb.size (fun j hj=>gg2 j hj);rw [List.append_assoc,List.singleton_append,HDL.out,show k+1+(vs.length-k)=vs.length+1 from by omega,←HL.out,←HP.out] at o3;obtain⟨uf,uh,rfl⟩:=zf_ o3;clear hgr o2 hb gg2 IF2;go_wp2;go_ret;exact⟨⟨_,rfl,o3⟩,hb3⟩
  ·obtain rfl:k=c:=by omega
   have hki:¬(k:Int)<(vs.length:Int):=by omega
   clear HC hvc;go_wp2_with (at_builtin;refine zB_.go ?_);unfold zB_;refine zw_ _ rfl _ _ rfl rfl w.heap.size _ 0 [] rfl (World.ownsRow_nil _ _ _ _) _ (vs.take k) rfl IT (by rw [HTL.out];omega) (Nat.le_refl _) ?_;intro u1 w1 o1 hgr;replace hgr:w.grownBy w1 none:=hgr;have hb:=(Below.refl w.heap.size w).grown hgr (Nat.le_refl _) (fun j hj=>by cases hj);simp only [Nat.zero_add,List.nil_append] at o1;rw [HTL.out] at o1;obtain⟨ua,uc,rfl⟩:=zf_ o1;have hz1:=hb.size;have gg:=ze_ o1;clear hgr;have X:=Box.new w1 #[x] 3;have hBa:=zc_ w1 (.cells #[x] 3);have o1a:=zd_ o1 hBa;have hB2:=za_ hb hBa;have hI:IL (w1.alloc (.cells #[x] 3)) (.slice (some ⟨w1.heap.size,0,none⟩) 1 1) [x]:=⟨_,_,rfl,fun _=>⟨w1.heap.size,0,rfl,by simp,fun i hi=>by
    obtain rfl:i=0:=by simpa using hi
    exact X.2.1 0 _ rfl⟩⟩
   clear X hBa o1 hb;go_wp2_with (at_builtin;refine zB_.go ?_);obtain⟨W1,hW1⟩:∃W,W=w1.alloc (.cells #[x] 3):=⟨_,rfl⟩;rw [←hW1] at o1a hB2 hI;rw [←hW1];unfold zB_;refine zw_ _ rfl _ _ rfl rfl w.heap.size _ k (vs.take k) rfl o1a _ [x] rfl hI (by simp;omega) hB2.size ?_;intro u2 w2 o2 hgr;have hb:=hB2.grown hgr hB2.size (fun j hj=>gg j hj);obtain⟨ub,ud,rfl⟩:=zf_ o2;have hz2:=hb.size;have gg2:=ze_ o2;have IF2:=IF.below hb;clear hgr o1a hB2 hI hW1 gg IF;go_wp2_with (at_builtin;refine zB_.go ?_);unfold zB_;refine zw_ _ rfl _ _ rfl rfl w.heap.size _ (k+1) (vs.take k++ [x]) rfl o2 _ (vs.drop k) rfl IF2 (by rw [HDL.out];omega) hb.size ?_;intro u3 w3 o3 hgr;have hb3:=hb.grown hgr hb.size (fun j hj=>gg2 j hj);rw [List.append_assoc,List.singleton_append,HDL.out,show k+1+(vs.length-k)=vs.length+1 from by omega,←HL.out,←HP.out] at o3;obtain⟨uf,uh,rfl⟩:=zf_ o3;clear hgr o2 hb gg2 IF2;go_wp2;go_ret;exact⟨⟨_,rfl,o3⟩,hb3⟩
end Go.Proofs.Ytapfhhmimkkhnaa
