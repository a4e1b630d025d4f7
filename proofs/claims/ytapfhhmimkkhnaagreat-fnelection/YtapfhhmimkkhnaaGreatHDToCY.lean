/-
  Which handler a message has; a node that does not lead commits nothing.
  The four handlers, in one form.
  Messages without entries, as they lie in memory.
  impl.CrashNode.
  Messages sent: impl's sending.
  A node put in its place, who leads noted: impl's withNode.
-/
import Derived.Test.YtapfhhmimkkhnaaGreatOA
import Derived.Test.YtapfhhmimkkhnaaGreatA2ToKC3
import Derived.Laws.EntriesVeiled
import Derived.Test.YtapfhhmimkkhnaaGreatCWToCV
import Derived.Deep.RegionHeld3
namespace Go.Proofs.YtapfhhmimkkhnaaGreat
open Go.RowKit Go.Maps
set_option linter.unusedVariables false
set_option maxRecDepth 100000
set_option maxHeartbeats 4000000
theorem handlerOf_1 (w:World):Calls Tryz.prog 155 #[(1:Int)] w fun e w'=>e= .returned (.func (.func 171) #[] #[])∧Below w.heap.size w w':=by
 go_enter Tryz.func155,Tryz.ntmps155;go_wp2;go_ret;exact⟨rfl,zb_ _ _⟩
theorem handlerOf_2 (w:World):Calls Tryz.prog 155 #[(2:Int)] w fun e w'=>e= .returned (.func (.func 172) #[] #[])∧Below w.heap.size w w':=by
 go_enter Tryz.func155,Tryz.ntmps155;go_wp2;go_ret;exact⟨rfl,zb_ _ _⟩
theorem handlerOf_3 (w:World):Calls Tryz.prog 155 #[(3:Int)] w fun e w'=>e= .returned (.func (.func 173) #[] #[])∧Below w.heap.size w w':=by
 go_enter Tryz.func155,Tryz.ntmps155;go_wp2;go_ret;exact⟨rfl,zb_ _ _⟩
theorem handlerOf_4 (w:World):Calls Tryz.prog 155 #[(4:Int)] w fun e w'=>e= .returned (.func (.func 174) #[] #[])∧Below w.heap.size w w':=by
 go_enter Tryz.func155,Tryz.ntmps155;go_wp2;go_ret;exact⟨rfl,zb_ _ _⟩
theorem committing_no (id pe te vo co ro:Int) (la:Option Addr) (lc:Nat) (va:Option Addr) (vc:Nat) (ma:Option Addr) (mc:Nat) (log:List En) (vs mt:List Int) (w:World) (h:¬ro=2):
  Calls Tryz.prog 156 #[.agg #[id,pe,te,vo,.slice la log.length lc,co,ro,.slice va vs.length vc,.slice ma mt.length mc]] w fun e w'=>e= .returned (.agg #[id,pe,te,vo,.slice la log.length lc,co,ro,.slice va vs.length vc,.slice ma mt.length mc])∧Below w.heap.size w w':=by
 go_enter Tryz.func156,Tryz.ntmps156;go_wp2;exact bodyPost_ret (v:= .agg #[id,pe,te,vo,.slice la log.length lc,co,ro,.slice va vs.length vc,.slice ma mt.length mc]) (by simp [results,Tryz.results156,go_sem]) rfl ⟨rfl,below2 _ _ _⟩
set_option maxHeartbeats 200000
def toQ (m:Ms):Mq:=⟨m.ki,m.fr,m.dst,m.te,m.ix,m.be,m.co,m.ye⟩
def HanP (w w':World) (base k p:Nat) (te:Int) (r:Nd) (A:List Ms) (ok:Bool) (e:Ending):Prop:=
 ∃ul uv um ua,e= .returned (.tuple #[.agg #[k,p,te,r.vo,ul,r.co,r.ro,uv,um],ua,ok])∧OwnN w' base ul uv um r.log r.vs r.mt∧w'.ownsRow base 80 9 ua A.length (zW_ (A.map toQ))∧Below base w w'
theorem handler_1 (k p:Nat) (hk:k<p) (hp:p≤7) (te vo co ro:Int) (la:Option Addr) (lc:Nat) (va:Option Addr) (vc:Nat) (ma:Option Addr) (mc:Nat) (log:List En) (vs mt:List Int) (f q:Nat) (dst mte be mco:Int) (ye:Bool) (ea:Option Addr) (ec:Nat) (es:List En) (base:Nat) (w:World) (ho:OwnN w base (.slice la log.length lc) (.slice va vs.length vc) (.slice ma mt.length mc) log vs mt) (hbase:base≤w.heap.size) (he:ER w (.slice ea es.length ec) es) (hce:es.length≤ec) (nl:log.length≤60) (ne:es.length≤60) (hq:q≤60) (hask:ro=1→vs≠ []∧vs.Pairwise (· ≤ ·)∧vs.length≤7∧¬(p:Int)<2*(vs.length:Int)) (hf:ro=2→f<mt.length):
  Calls Tryz.prog 171 #[.agg #[k,p,te,vo,.slice la log.length lc,co,ro,.slice va vs.length vc,.slice ma mt.length mc],.agg #[(1:Int),f,dst,mte,q,be,.slice ea es.length ec,mco,ye]] w fun e w'=>HanP w w' base k p te (hmN ⟨k,p,te,vo,co,ro,log,vs,mt⟩ ⟨1,f,dst,mte,q,be,mco,ye,es⟩) (hmA ⟨k,p,te,vo,co,ro,log,vs,mt⟩ ⟨1,f,dst,mte,q,be,mco,ye,es⟩) (hmB ⟨k,p,te,vo,co,ro,log,vs,mt⟩ ⟨1,f,dst,mte,q,be,mco,ye,es⟩) e:=by
 refine (onAsk_any k p te vo co ro la lc va vc ma mc log vs mt 1 f dst mte q be mco ye ea ec es w ho.er ho.iv ho.im (by omega) _ rfl).mono ?_;rintro e w' ⟨u,rfl,h1,h2⟩;have h3:=ho.below h2;have e1:askY ⟨k,p,te,vo,co,ro,log,vs,mt⟩ ⟨1,f,dst,mte,q,be,mco,ye,es⟩=(decide (mte=te)&&((decide (vo= -1) || decide (vo=(f:Int)))&&zN_ log q be)):=rfl;refine⟨.slice la log.length lc,.slice va vs.length vc,.slice ma mt.length mc,u,?_,?_,?_,h2.mono hbase⟩
 ·simp only [hmN,hmB,askN,e1];generalize (decide (mte=te)&&((decide (vo= -1) || decide (vo=(f:Int)))&&zN_ log q be))=y
  cases y <;>rfl
 ·simp only [hmN,askN,if_true]
  split <;>exact h3
 ·exact zf_ h1 hbase
theorem handler_2 (k p:Nat) (hk:k<p) (hp:p≤7) (te vo co ro:Int) (la:Option Addr) (lc:Nat) (va:Option Addr) (vc:Nat) (ma:Option Addr) (mc:Nat) (log:List En) (vs mt:List Int) (f q:Nat) (dst mte be mco:Int) (ye:Bool) (ea:Option Addr) (ec:Nat) (es:List En) (base:Nat) (w:World) (ho:OwnN w base (.slice la log.length lc) (.slice va vs.length vc) (.slice ma mt.length mc) log vs mt) (hbase:base≤w.heap.size) (he:ER w (.slice ea es.length ec) es) (hce:es.length≤ec) (nl:log.length≤60) (ne:es.length≤60) (hq:q≤60) (hask:ro=1→vs≠ []∧vs.Pairwise (· ≤ ·)∧vs.length≤7∧¬(p:Int)<2*(vs.length:Int)) (hf:ro=2→f<mt.length):
  Calls Tryz.prog 172 #[.agg #[k,p,te,vo,.slice la log.length lc,co,ro,.slice va vs.length vc,.slice ma mt.length mc],.agg #[(2:Int),f,dst,mte,q,be,.slice ea es.length ec,mco,ye]] w fun e w'=>HanP w w' base k p te (hmN ⟨k,p,te,vo,co,ro,log,vs,mt⟩ ⟨2,f,dst,mte,q,be,mco,ye,es⟩) (hmA ⟨k,p,te,vo,co,ro,log,vs,mt⟩ ⟨2,f,dst,mte,q,be,mco,ye,es⟩) (hmB ⟨k,p,te,vo,co,ro,log,vs,mt⟩ ⟨2,f,dst,mte,q,be,mco,ye,es⟩) e:=by
 refine (onVote_any k p hk hp te vo co ro la lc va vc ma mc log vs mt 2 f dst mte q be mco ye ea ec es base w ho hbase hask _ rfl).mono ?_;rintro e w' ⟨uv,um,rfl,h1,h2⟩;have e0:hmN ⟨k,p,te,vo,co,ro,log,vs,mt⟩ ⟨2,f,dst,mte,q,be,mco,ye,es⟩=votN ⟨k,p,te,vo,co,ro,log,vs,mt⟩ ⟨2,f,dst,mte,q,be,mco,ye,es⟩:=rfl;have e1:(votN ⟨k,p,te,vo,co,ro,log,vs,mt⟩ ⟨2,f,dst,mte,q,be,mco,ye,es⟩).vo=vo∧(votN ⟨k,p,te,vo,co,ro,log,vs,mt⟩ ⟨2,f,dst,mte,q,be,mco,ye,es⟩).co=co∧(votN ⟨k,p,te,vo,co,ro,log,vs,mt⟩ ⟨2,f,dst,mte,q,be,mco,ye,es⟩).log=log:=by
  simp only [votN,vbN]
  split
  ·split
   ·exact⟨rfl,rfl,rfl⟩
   ·split <;>exact⟨rfl,rfl,rfl⟩
  ·exact⟨rfl,rfl,rfl⟩
 refine⟨.slice la log.length lc,uv,um,.slice none 0 0,?_,?_,World.ownsRow_nil _ _ _ _,h2⟩
 ·rw [e0,e1.1,e1.2.1];rfl
 ·rw [e0,e1.2.2];exact h1
theorem handler_3 (k p:Nat) (hk:k<p) (hp:p≤7) (te vo co ro:Int) (la:Option Addr) (lc:Nat) (va:Option Addr) (vc:Nat) (ma:Option Addr) (mc:Nat) (log:List En) (vs mt:List Int) (f q:Nat) (dst mte be mco:Int) (ye:Bool) (ea:Option Addr) (ec:Nat) (es:List En) (base:Nat) (w:World) (ho:OwnN w base (.slice la log.length lc) (.slice va vs.length vc) (.slice ma mt.length mc) log vs mt) (hbase:base≤w.heap.size) (he:ER w (.slice ea es.length ec) es) (hce:es.length≤ec) (nl:log.length≤60) (ne:es.length≤60) (hq:q≤60) (hask:ro=1→vs≠ []∧vs.Pairwise (· ≤ ·)∧vs.length≤7∧¬(p:Int)<2*(vs.length:Int)) (hf:ro=2→f<mt.length):
  Calls Tryz.prog 173 #[.agg #[k,p,te,vo,.slice la log.length lc,co,ro,.slice va vs.length vc,.slice ma mt.length mc],.agg #[(3:Int),f,dst,mte,q,be,.slice ea es.length ec,mco,ye]] w fun e w'=>HanP w w' base k p te (hmN ⟨k,p,te,vo,co,ro,log,vs,mt⟩ ⟨3,f,dst,mte,q,be,mco,ye,es⟩) (hmA ⟨k,p,te,vo,co,ro,log,vs,mt⟩ ⟨3,f,dst,mte,q,be,mco,ye,es⟩) (hmB ⟨k,p,te,vo,co,ro,log,vs,mt⟩ ⟨3,f,dst,mte,q,be,mco,ye,es⟩) e:=by
 refine (onAppend_any k p te vo co ro la lc va vc ma mc log vs mt 3 f dst mte be mco ye ea ec es q base w ho he hce hbase nl ne hq _ rfl _ rfl _ rfl).mono ?_;rintro e w' ⟨ul,uv,um,ua,rfl,h1,h3,h2⟩;have e0:hmN ⟨k,p,te,vo,co,ro,log,vs,mt⟩ ⟨3,f,dst,mte,q,be,mco,ye,es⟩=appN ⟨k,p,te,vo,co,ro,log,vs,mt⟩ ⟨3,f,dst,mte,q,be,mco,ye,es⟩:=rfl;have e1:(appN ⟨k,p,te,vo,co,ro,log,vs,mt⟩ ⟨3,f,dst,mte,q,be,mco,ye,es⟩).vo=vo:=by
  simp only [appN]
  split
  ·rfl
  ·split <;>rfl
 refine⟨ul,uv,um,ua,?_,?_,h3,h2⟩
 ·rw [e0,e1];rfl
 ·rw [e0];exact h1
theorem handler_4 (k p:Nat) (hk:k<p) (hp:p≤7) (te vo co ro:Int) (la:Option Addr) (lc:Nat) (va:Option Addr) (vc:Nat) (ma:Option Addr) (mc:Nat) (log:List En) (vs mt:List Int) (f q:Nat) (dst mte be mco:Int) (ye:Bool) (ea:Option Addr) (ec:Nat) (es:List En) (base:Nat) (w:World) (ho:OwnN w base (.slice la log.length lc) (.slice va vs.length vc) (.slice ma mt.length mc) log vs mt) (hbase:base≤w.heap.size) (he:ER w (.slice ea es.length ec) es) (hce:es.length≤ec) (nl:log.length≤60) (ne:es.length≤60) (hq:q≤60) (hask:ro=1→vs≠ []∧vs.Pairwise (· ≤ ·)∧vs.length≤7∧¬(p:Int)<2*(vs.length:Int)) (hf:ro=2→f<mt.length):
  Calls Tryz.prog 174 #[.agg #[k,p,te,vo,.slice la log.length lc,co,ro,.slice va vs.length vc,.slice ma mt.length mc],.agg #[(4:Int),f,dst,mte,q,be,.slice ea es.length ec,mco,ye]] w fun e w'=>HanP w w' base k p te (hmN ⟨k,p,te,vo,co,ro,log,vs,mt⟩ ⟨4,f,dst,mte,q,be,mco,ye,es⟩) (hmA ⟨k,p,te,vo,co,ro,log,vs,mt⟩ ⟨4,f,dst,mte,q,be,mco,ye,es⟩) (hmB ⟨k,p,te,vo,co,ro,log,vs,mt⟩ ⟨4,f,dst,mte,q,be,mco,ye,es⟩) e:=by
 refine (onTold_any k p te vo co ro la lc va vc ma mc log vs mt f 4 dst mte q be mco ye ea ec es base w ho hbase hf _ rfl).mono ?_;rintro e w' ⟨uv,um,rfl,h1,h2⟩;have e0:hmN ⟨k,p,te,vo,co,ro,log,vs,mt⟩ ⟨4,f,dst,mte,q,be,mco,ye,es⟩=tolN ⟨k,p,te,vo,co,ro,log,vs,mt⟩ ⟨4,f,dst,mte,q,be,mco,ye,es⟩:=rfl;have e1:(tolN ⟨k,p,te,vo,co,ro,log,vs,mt⟩ ⟨4,f,dst,mte,q,be,mco,ye,es⟩).vo=vo∧(tolN ⟨k,p,te,vo,co,ro,log,vs,mt⟩ ⟨4,f,dst,mte,q,be,mco,ye,es⟩).co=co∧(tolN ⟨k,p,te,vo,co,ro,log,vs,mt⟩ ⟨4,f,dst,mte,q,be,mco,ye,es⟩).log=log∧(tolN ⟨k,p,te,vo,co,ro,log,vs,mt⟩ ⟨4,f,dst,mte,q,be,mco,ye,es⟩).ro=ro∧(tolN ⟨k,p,te,vo,co,ro,log,vs,mt⟩ ⟨4,f,dst,mte,q,be,mco,ye,es⟩).vs=vs:=by
  simp only [tolN]
  split <;>exact⟨rfl,rfl,rfl,rfl,rfl⟩
 refine⟨.slice la log.length lc,uv,um,.slice none 0 0,?_,?_,World.ownsRow_nil _ _ _ _,h2⟩
 ·rw [e0,e1.1,e1.2.1,e1.2.2.2.1];rfl
 ·rw [e0,e1.2.2.1,e1.2.2.2.2];exact h1
def bareM (m:Ms):Mv:=⟨⟨m.ki,m.fr,m.dst,m.te,m.ix,m.be,m.co,m.ye,[]⟩,none,0⟩
theorem flatM_bare (A:List Ms):zo_ (A.map bareM)=zW_ (A.map toQ):=by
 induction A with
 | nil=>rfl
 | cons x r ih=>simp only [List.map_cons,zo_,zW_,ih];rfl
theorem bare_q {A:List Ms} (h:∀a∈A,a.es= []):(A.map bareM).map Mv.q=A:=by
 induction A with
 | nil=>rfl
 | cons x r ih=>
  have:=h x (List.mem_cons_self);simp only [List.map_cons,ih fun a ha=>h a (List.mem_cons_of_mem _ ha)]
  congr 1
  cases x
  simp only at this;simp [bareM,this]
set_option maxHeartbeats 4000000
theorem implCrash_any (id pe te vo co ro:Int) (vl vv vm:Value) (log:List En) (vs mt:List Int) (base:Nat) (w:World) (ho:OwnN w base vl vv vm log vs mt) (nl:log.length≤1048576) (nv:vs.length≤1048576) (nm:mt.length≤1048576) (ns:∀i (h:i<log.length),log[i].d.size≤1048576):
  Calls Tryz.prog 134 #[.agg #[id,pe,te,vo,vl,co,ro,vv,vm]] w fun e w'=>∃ul uv um,e= .returned (.tuple #[.agg #[.int .i64 (crashN (zm_ id pe te vo co ro log vs mt) id pe te vo log).id,.int .i64 (crashN (zm_ id pe te vo co ro log vs mt) id pe te vo log).pe,.int .i64 (crashN (zm_ id pe te vo co ro log vs mt) id pe te vo log).te,.int .i64 (crashN (zm_ id pe te vo co ro log vs mt) id pe te vo log).vo,ul,.int .i64 (crashN (zm_ id pe te vo co ro log vs mt) id pe te vo log).co,.int .i64 (crashN (zm_ id pe te vo co ro log vs mt) id pe te vo log).ro,uv,um],.bool (zm_ id pe te vo co ro log vs mt)])∧OwnN w' w.heap.size ul uv um (crashN (zm_ id pe te vo co ro log vs mt) id pe te vo log).log (crashN (zm_ id pe te vo co ro log vs mt) id pe te vo log).vs (crashN (zm_ id pe te vo co ro log vs mt) id pe te vo log).mt∧Below w.heap.size w w':=by
 obtain⟨W0,hW0,hB,X,Y,hz00⟩:=al2 w [id,pe,te,vo,vl,co,ro,vv,vm] 42 zN 42;have ho0:=ho.below hB;have K:=zM_ id pe te vo co ro vl vv vm log vs mt _ ho0.er ho0.iv ho0.im nl nv nm ns;have K2:=fun W (h:Below w.heap.size w W)=>copyNode_any id pe te vo co ro vl vv vm log vs mt W (ho.below h).er (ho.below h).iv (ho.below h).im ho.nns.1 ho.nns.2.1 ho.nns.2.2 nl nv nm;generalize zm_ id pe te vo co ro log vs mt=g at*;obtain⟨⟨la,lc,rfl⟩,⟨va,vc,rfl⟩,ma,mc,rfl⟩:=ho.shapes;clear ns ho0 ho
 cases g with
 | false=>
  show Calls Tryz.prog 134 _ w fun e w'=>∃ul uv um,e= .returned (.tuple #[.agg #[(0:Int),(0:Int),(0:Int),(0:Int),ul,(0:Int),(0:Int),uv,um],false])∧OwnN w' w.heap.size ul uv um [] [] []∧Below w.heap.size w w';go_enter Tryz.func134,Tryz.ntmps134;go_wp2_with fail;rw [←hW0];clear hW0;refine K.mono ?_;rintro e w1 ⟨rfl,hb⟩;replace hB:=za_ hB hb;replace Y:=Y.below hb;clear K hb K2 X;obtain⟨hyl,y0,y1,y2,y3,y4,y5,y6,y7,y8⟩:=Y.e9;obtain⟨f0,f1,f2,f3,f4,f5,f6,f7,f8⟩:=Y.f9;have hC:=zk_ w1 (w.heap.size+1) (0:Int) (0:Int) (0:Int) (0:Int) () (0:Int) (0:Int) () ();have Z:=zl_ Y (0:Int) (0:Int) (0:Int) (0:Int) () (0:Int) (0:Int) () ();have hBE:=hB.trans (hC.b1 hB.size (by omega));have O:=OwnN.nil (put9 w1 (w.heap.size+1) (.int .i64 0) (.int .i64 0) (.int .i64 0) (.int .i64 0) (.slice none 0 0) (.int .i64 0) (.int .i64 0) (.slice none 0 0) (.slice none 0 0)) w.heap.size;obtain⟨hzl,t0,t1,t2,t3,t4,t5,t6,t7,t8⟩:=Z.e9;clear Z hC hB Y;unfold put9 at*;go_wp2;exact bodyPost_ret (v:= .tuple #[.agg zN,false]) (by simp [results,Tryz.results134,go_sem,t0,t1,t2,t3,t4,t5,t6,t7,t8]) rfl ⟨_,_,_,rfl,O,hBE⟩
 | true=>
  show Calls Tryz.prog 134 _ w fun e w'=>∃ul uv um,e= .returned (.tuple #[.agg #[id,pe,te,vo,ul,(0:Int),(0:Int),uv,um],true])∧OwnN w' w.heap.size ul uv um log [] []∧Below w.heap.size w w';go_enter Tryz.func134,Tryz.ntmps134;go_wp2_with fail;rw [←hW0];clear hW0;refine K.mono ?_;rintro e w1 ⟨rfl,hb⟩;replace hB:=za_ hB hb;replace Y:=Y.below hb;replace X:=X.below hb;have hz1:=hb.size;clear K hb;obtain⟨hxl,x0,x1,x2,x3,x4,x5,x6,x7,x8⟩:=X.e9;go_wp2_with fail;refine (K2 _ hB).mono ?_;rintro e w2 ⟨u1,u2,u3,rfl,O,hb⟩;replace hB:=za_ hB hb;replace Y:=Y.below hb;replace X:=X.below hb;have hz2:=hb.size;have gO:=fun b hb=>(O.lt b hb).1;clear K2 hb hxl x0 x1 x2 x3 x4 x5 x6 x7 x8;obtain⟨⟨ua,uc,rfl⟩,⟨xa,xc,rfl⟩,ya,yc,rfl⟩:=O.shapes;go_wp2_with fail;refine (following_any _ _ _ _ _ _ _ _ _ ua log.length uc rfl _ ⟨_,_,_,rfl⟩ ⟨_,_,_,rfl⟩).mono ?_;rintro e w3 ⟨rfl,hb⟩;replace hB:=za_ hB hb;replace Y:=Y.below hb;replace X:=X.below hb;replace O:=O.below hb;clear hb;obtain⟨hxl,x0,x1,x2,x3,x4,x5,x6,x7,x8⟩:=X.e9;obtain⟨e0,e1,e2,e3,e4,e5,e6,e7,e8⟩:=X.f9;obtain⟨hyl,y0,y1,y2,y3,y4,y5,y6,y7,y8⟩:=Y.e9;obtain⟨f0,f1,f2,f3,f4,f5,f6,f7,f8⟩:=Y.f9;have hC1:=zk_ w3 w.heap.size id pe te vo (.slice ua log.length uc) co (0:Int) () ();have Z1:=zl_ X id pe te vo (.slice ua log.length uc) co (0:Int) () ();have hC2:Chg (· =w.heap.size) w3 ((put9 w3 w.heap.size (.int .i64 id) (.int .i64 pe) (.int .i64 te) (.int .i64 vo) (.slice ua log.length uc) (.int .i64 co) (.int .i64 0) (.slice none 0 0) (.slice none 0 0)).setCell ⟨w.heap.size,5,none⟩ (.int .i64 0)):=Chg.setCell (S:=fun k=>k=w.heap.size) hC1 rfl _;have Z2:=Z1.set 5 (.int .i64 0) (by simp);have Ya:=hC2.box Y (by omega);have hC3:=zk_ ((put9 w3 w.heap.size id pe te vo (.slice ua log.length uc) co (0:Int) () ()).setCell ⟨w.heap.size,5,none⟩ (0:Int)) (w.heap.size+1) id pe te vo (.slice ua log.length uc) (0:Int) (0:Int) () ();have Z:=zl_ Ya id pe te vo (.slice ua log.length uc) (0:Int) (0:Int) () ();have hC:Chg (fun k=>k=w.heap.size∨k=w.heap.size+1) w3 _:=(hC2.mono fun k hk=>Or.inl hk).trans (hC3.mono fun k hk=>Or.inr hk);have hO:=hC.owns (zf_ O.l (show w.heap.size≤w1.heap.size from by omega)) (fun b hb hh=>by have:=gO b (.inl hb);have hh:b=w.heap.size∨b=w.heap.size+1:=hh;omega);have hBE:=hB.trans (hC.below (B:=w.heap.size) hB.size (fun k hk=>by omega));obtain⟨hsl,s0,s1,s2,s3,s4,s5,s6,s7,s8⟩:=Z2.e9;obtain⟨hzl,t0,t1,t2,t3,t4,t5,t6,t7,t8⟩:=Z.e9;clear Z hC hB Y X Z1 Z2 Ya hC1 hC2 hC3 gO O;unfold put9 at*;go_wp2;exact bodyPost_ret (v:= .tuple #[.agg #[id,pe,te,vo,.slice ua log.length uc,(0:Int),(0:Int),(),()],true]) (by simp [results,Tryz.results134,go_sem,t0,t1,t2,t3,t4,t5,t6,t7,t8]) rfl ⟨_,_,_,rfl,⟨hO,World.ownsRow_nil _ _ _ _,World.ownsRow_nil _ _ _ _,fun g hg=>by simp [Value.ownBlock] at hg⟩,hBE⟩
set_option maxHeartbeats 16000000
theorem sl_to27 (a:Option Addr) (n cap p:Nat) (w:World) (hp:p≤cap):(Instr.sliceAt 27 (.slice a n cap) none (some (.int .i64 p)) none).run Tryz.prog w= .ok (.slice a p cap) w:=by
 have h1:(p:Int)≤(cap:Int):=by omega
 have h2:(0:Int)≤(p:Int):=by omega
 have hA:(Instr.sliceAt 27 (.slice a n cap) none (some (.int .i64 p)) none).run Tryz.prog w=(Instr.slice 27 (.slice a n cap) none (some (.int .i64 p)) none).run Tryz.prog w:=by simp [Instr.sliceAt,run_underlying Tryz.underlying27]
 rw [hA];simp [Instr.slice,Instr.sliceBounds,Instr.sliceBound,asIntOf,run_underlying Tryz.underlying27,hp,h2,Tryz.sizeOf80]
 cases a <;>simp [Addr.add]
theorem own_cap {w:World} {base:Nat} {e:TypeId} {size n:Nat} {a:Option Addr} {cap:Nat} {xs:List Value} (h:w.ownsRow base e size (.slice a n cap) n xs):n≤cap:=by
 rcases h.2 with⟨h1,h0⟩ | ⟨g,cap',cur,hv,_,_,hc,_⟩
 ·omega
 ·simp only [Value.slice.injEq] at hv;omega
theorem Box.c3f {w:World} {b:Nat} {u v t:Value} (h:Box w b [u,v,t]):b<w.heap.size∧w.cell? ⟨b,0,none⟩=some u∧w.cell? ⟨b,1,none⟩=some v∧w.cell? ⟨b,2,none⟩=some t∧w.frozen? ⟨b,0,none⟩=false∧w.frozen? ⟨b,1,none⟩=false∧w.frozen? ⟨b,2,none⟩=false:=⟨h.1,h.2.1 0 _ rfl,h.2.1 1 _ rfl,h.2.1 2 _ rfl,h.2.2 0,h.2.2 1,h.2.2 2⟩
theorem sending_any (lo hi hi2:Nat) (vn vm vl:Value) (N:List Nv) (M:List Mv) (L:List Ld) (la:Option Addr) (lc:Nat) (A:List Mv) (b2:Nat) (w:World) (h:OwnC w lo hi vn vm vl N M L) (hr:w.ownsRow b2 80 9 (.slice la A.length lc) A.length (zo_ A)) (hA:zr_ PM BM w hi hi2 A) (h2:hi2≤w.heap.size) (hM:M.length≤60) (hAn:A.length≤100):
  Calls Tryz.prog 128 #[.agg #[vn,vm,vl],.slice la A.length lc] w fun e w'=>∃um,e= .returned (.agg #[vn,um,vl])∧OwnC w' lo w'.heap.size vn um vl N (M++A.take (60-M.length)) L∧Chg (fun b=>vm.ownBlock=some b) w w':=by
 obtain⟨⟨na,nc,rfl⟩,⟨ma,mc,rfl⟩,ya,yc,rfl⟩:=h.shapes;obtain⟨W0,hW0,hB,X,Y,hz0⟩:=al2 w [.slice na N.length nc,.slice ma M.length mc,.slice ya L.length yc] 30 z3 30;have h0:=h.below hB;have r0:=zd_ hr hB;have a0:=hA.belowM hB;have hcap:=own_cap hr;have hh:=hA.ends;have hzw:w.heap.size≤W0.heap.size:=hB.size;obtain⟨kk,hkk,hk1,hk2,hk3⟩:∃kk:Nat,Hid ((kk:Int)=min (60-(M.length:Int)) (A.length:Int))∧kk≤A.length∧kk≤60-M.length∧(kk=A.length∨kk=60-M.length):=⟨min (60-M.length) A.length,by show _=_;omega,by omega,by omega,by omega⟩;have SL:=fun W=>sl_to27 la A.length lc kk W (by omega);have hO0:Hid (Chg (fun b=>(Value.slice ma M.length mc).ownBlock=some b) w W0):=Chg.of_below hB;clear h hr hA hB hcap;obtain⟨xl,x0,x1,x2,f0,f1,f2⟩:=X.c3f;go_enter Tryz.func128,Tryz.ntmps128;go_upto_region 2 with fail;rw [←hW0];clear hW0 xl x0 x1 x2 f0 f1 f2;have hD:Below W0.heap.size W0 W0.drew:=(Below.refl _ _).drew;replace X:=X.below hD;replace Y:=Y.below hD;replace h0:=h0.below hD;replace r0:=zd_ r0 hD;replace a0:=a0.belowM hD;replace hO0:Hid (Chg (fun b=>(Value.slice ma M.length mc).ownBlock=some b) w W0.drew):=hO0.out.trans (Chg.of_below hD);have hzD:W0.heap.size≤W0.drew.heap.size:=hD.size;clear hD;refine wp_region_held_drew (S:=(fun _=>True)) (by kernel_rfl) trivial (fun zc_=> ?_);generalize W0.drew=va at*;refine tkH 0 (.pointer (some ⟨w.heap.size,1,none⟩)) rfl ?_ ?_
 ·intro wx hSw;clear zc_ hSw;go_simp
 simp only [Act.put,sA_,sB_,sC_];refine tkH 2 (.slice la A.length lc) rfl ?_ ?_
 ·intro wx hSw;clear zc_ hSw;go_simp
 simp only [Act.put,sA_,sB_,sC_];refine tkH 3 (.int .i64 (60-(M.length:Int))) rfl ?_ ?_
 ·intro wx hSw;clear zc_ hSw;go_simp
 simp only [Act.put,sA_,sB_,sC_];refine tkH 4 (.slice la A.length lc) rfl ?_ ?_
 ·intro wx hSw;clear zc_ hSw;go_simp
 simp only [Act.put,sA_,sB_,sC_];refine tkH 5 (.int .i64 A.length) rfl ?_ ?_
 ·intro wx hSw;clear zc_ hSw;go_simp
 simp only [Act.put,sA_,sB_,sC_];refine tkH 6 (.int .i64 kk) rfl ?_ ?_
 ·intro wx hSw;clear zc_ hSw;rw [hkk.out];go_simp
 simp only [Act.put,sA_,sB_,sC_];refine tkH 7 (.slice la kk lc) rfl ?_ ?_
 ·intro wx hSw;clear zc_ hSw;go_simp
 simp only [Act.put,sA_,sB_,sC_];refine rd1 1 rfl (fun K hK=> ?_);clear zc_;obtain⟨xl,x0,x1,x2,f0,f1,f2⟩:=X.c3f;go_simp;refine hK.out _ va trivial (fun zc_=> ?_);clear hK K xl x0 x1 x2 f0 f1 f2
 try (simp only [Act.put,sA_,sB_,sC_])
 refine rd1 8 rfl (fun K hK=> ?_);clear zc_;have rk:=yb_ r0 kk (by omega);rw [yc_] at rk;refine ye_ _ _ _ rfl rfl lo _ M.length (zo_ M) rfl h0.m _ kk (zo_ (A.take kk)) rfl (yi_.own rk) (zP_ _) (by omega) (by have:=h0.lohi;omega) ?_;intro u w3 o3 hgr hat;rw [←flatM_append] at o3;have hC3:=zz_ hgr;have hek:A.take (60-M.length)=A.take kk:=by
  by_cases q:A.length≤60-M.length
  ·rw [List.take_of_length_le q,List.take_of_length_le (by omega)]
  ·rw [show kk=60-M.length from by omega]
 have hlk:M.length+kk=(M++A.take (60-M.length)).length:=by rw [hek,List.length_append,List.length_take];omega
 rw [hlk,←hek] at o3;have bmv:=h0.bm;have hmlo:=zg_ h0.m;have hg3:∀b,u.ownBlock=some b→b<hi∨w.heap.size+1+1≤b:=fun b hb=>by
  rcases hat with q | q
  ·rw [q] at hb;exact .inl (bmv b hb)
  ·rw [q] at hb;injection hb with hb;omega
 replace a0:=a0.chgM hC3 (fun b hb=>by have:=bmv b hb;omega);have hOV:Hid (OwnC va lo hi (.slice na N.length nc) (.slice ma M.length mc) (.slice ya L.length yc) N M L):=h0;have hCV:Hid (Chg (fun b=>(Value.slice ma M.length mc).ownBlock=some b) va w3):=hC3;have hOO:Hid (∀b,(Value.slice ma M.length mc).ownBlock=some b→lo≤b∧b<hi):=fun b hb=>⟨hmlo b hb,bmv b hb⟩;replace X:=hC3.box X (by intro hb;have:=bmv _ hb;omega);replace Y:=hC3.box Y (by intro hb;have:=bmv _ hb;omega);have hzz:=hC3.size;have HAK:Hid (zr_ PM BM w3 hi hi2 (A.take (60-M.length))):=a0.takeM _;clear hgr hC3 rk hat r0 a0 hek hlk h0 bmv hmlo;obtain⟨AK,HAKE⟩:∃AK,Hid (A.take (60-M.length)=AK):=⟨_,rfl⟩;rw [HAKE.out] at o3 HAK;obtain⟨MA,hMA⟩:∃MA,MA=M++AK:=⟨_,rfl⟩;have HMA:Hid (MA=M++AK):=hMA;rw [←hMA] at o3;clear hMA;obtain⟨ua,uc,rfl⟩:=ze_ o3;refine hK.out _ w3 trivial (fun zc_=> ?_);clear hK K
 try (simp only [Act.put,sA_,sB_,sC_])
 refine tkH 9 (.pointer (some ⟨w.heap.size,1,none⟩)) rfl ?_ ?_
 ·intro wx hSw;clear zc_ hSw;go_simp
 simp only [Act.put,sA_,sB_,sC_];refine rd1 10 rfl (fun K hK=> ?_);clear zc_;obtain⟨xl,x0,x1,x2,f0,f1,f2⟩:=X.c3f;obtain⟨W4,hW4⟩:∃W,W=w3.setCell ⟨w.heap.size,1,none⟩ (.slice ua MA.length uc):=⟨_,rfl⟩;have hC4:Chg (fun b=>b=w.heap.size) w3 W4:=by rw [hW4];exact Chg.setCell (S:=fun b=>b=w.heap.size) (Chg.refl _ _) rfl _
 have X4:Box W4 w.heap.size [.slice na N.length nc,.slice ua MA.length uc,.slice ya L.length yc]:=by rw [hW4];exact X.set 1 _ (by simp)
 have Y4:=hC4.box Y (by omega);go_simp;rw [←hW4];clear hW4 xl x0 x1 x2 f0 f1 f2;refine hK.out _ W4 trivial (fun zc_=> ?_);clear hK K
 try (simp only [Act.put,sA_,sB_,sC_])
 obtain⟨W5,hW5,hC5,Y5⟩:=zi_ W4 Y4 (.slice na N.length nc) (.slice ua MA.length uc) (.slice ya L.length yc);have hC45:Chg (fun b=>b=w.heap.size∨b=w.heap.size+1) w3 W5:=(hC4.mono fun b hb=> .inl hb).trans (hC5.mono fun b hb=> .inr hb);have o5:=hC45.owns o3 (fun b hb hh=>by have:=hg3 b hb;omega);have HA5:zr_ PM BM W5 hi hi2 AK:=HAK.out.chgM hC45 (fun b hb=>by omega);have hFF:Hid (OwnC W5 lo W5.heap.size (.slice na N.length nc) (.slice ua MA.length uc) (.slice ya L.length yc) N MA L):=by
  have q:=hOV.out.push (A:=AK) (hi':=W5.heap.size) (vm':= .slice ua MA.length uc) (by rw [←HMA.out];exact o5) ((hCV.out.mono fun b hb=> .inl hb).trans (hC45.mono fun b hb=> .inr (by omega))) (fun b hb=>zh_ o5 b hb) (by have:=hC45.size;omega) (HA5.hi (by have:=hC45.size;omega));rw [←HMA.out] at q;exact q
 have hCF:Hid (Chg (fun b=>(Value.slice ma M.length mc).ownBlock=some b) w W5):=by
  have hz0:=hO0.out.size;exact (hO0.out.nextC hCV.out fun k q=> .inl q).nextC hC45 fun k q=> .inr (by omega)
 clear hC5 hC45 hC4 o5 HA5 o3 hOV hCV hOO hO0 HAK;obtain⟨yl,y0,y1,y2,f0,f1,f2⟩:=Y4.c3f;obtain⟨xl,x0,x1,x2⟩:=X4.c3;clear X4 Y4 Y X;obtain⟨zl,t0,t1,t2⟩:=Y5.c3;clear Y5;unfold put3 at*;refine wpAnyH_done (by kernel_rfl) ?_ _;go_wp2;rw [←hW5];exact bodyPost_ret (v:= .agg #[.slice na N.length nc,.slice ua MA.length uc,.slice ya L.length yc]) (by simp [results,Tryz.results128,go_sem,t0,t1,t2]) rfl ⟨_,rfl,by rw [HAKE.out,←HMA.out];exact hFF.out,hCF.out⟩
set_option maxHeartbeats 200000
def set9 (w:World) (g o:Nat) (v0 v1 v2 v3 v4 v5 v6 v7 v8:Value):World:=((((((((w.setCell ⟨g,o,none⟩ v0).setCell ⟨g,o+1,none⟩ v1).setCell ⟨g,o+2,none⟩ v2).setCell ⟨g,o+3,none⟩ v3).setCell ⟨g,o+4,none⟩ v4).setCell ⟨g,o+5,none⟩ v5).setCell ⟨g,o+6,none⟩ v6).setCell ⟨g,o+7,none⟩ v7).setCell ⟨g,o+8,none⟩ v8
theorem set9_chg (w:World) (g o:Nat) (v0 v1 v2 v3 v4 v5 v6 v7 v8:Value):Chg (fun b=>b=g) w (set9 w g o v0 v1 v2 v3 v4 v5 v6 v7 v8):=by
 unfold set9
 iterate 9 (refine Chg.setCell (S:=fun b=>b=g) ?_ rfl _)
 exact Chg.refl _ _
def setNw (w:World) (g j:Nat) (x:Nv):World:=set9 w g (j*9) (.int .i64 x.n.id) (.int .i64 x.n.pe) (.int .i64 x.n.te) (.int .i64 x.n.vo) (.slice x.la x.n.log.length x.lc) (.int .i64 x.n.co) (.int .i64 x.n.ro) (.slice x.va x.n.vs.length x.vc) (.slice x.ma x.n.mt.length x.mc)
def setMw (w:World) (g j:Nat) (x:Mv):World:=set9 w g (j*9) (.int .i64 x.q.ki) (.int .i64 x.q.fr) (.int .i64 x.q.dst) (.int .i64 x.q.te) (.int .i64 x.q.ix) (.int .i64 x.q.be) (.slice x.ea x.q.es.length x.ec) (.int .i64 x.q.co) (.bool x.q.ye)
theorem setNw_owns {w:World} {base g n cap:Nat} {N:List Nv} (h:w.ownsRow base 42 9 (.slice (some ⟨g,0,none⟩) n cap) n (zI_ N)) (j:Nat) (x:Nv):(setNw w g j x).ownsRow base 42 9 (.slice (some ⟨g,0,none⟩) n cap) n (zI_ (N.set j x)):=by
 rw [←flatN_set N j x];unfold setNw set9;exact ((((((((h.stored (j*9) _).1.stored (j*9+1) _).1.stored (j*9+2) _).1.stored (j*9+3) _).1.stored (j*9+4) _).1.stored (j*9+5) _).1.stored (j*9+6) _).1.stored (j*9+7) _).1.stored (j*9+8) _ |>.1
theorem setMw_owns {w:World} {base g n cap:Nat} {M:List Mv} (h:w.ownsRow base 80 9 (.slice (some ⟨g,0,none⟩) n cap) n (zo_ M)) (j:Nat) (x:Mv):(setMw w g j x).ownsRow base 80 9 (.slice (some ⟨g,0,none⟩) n cap) n (zo_ (M.set j x)):=by
 rw [←flatM_set M j x];unfold setMw set9;exact ((((((((h.stored (j*9) _).1.stored (j*9+1) _).1.stored (j*9+2) _).1.stored (j*9+3) _).1.stored (j*9+4) _).1.stored (j*9+5) _).1.stored (j*9+6) _).1.stored (j*9+7) _).1.stored (j*9+8) _ |>.1
theorem setNw_chg (w:World) (g j:Nat) (x:Nv):Chg (fun b=>b=g) w (setNw w g j x):=set9_chg _ _ _ _ _ _ _ _ _ _ _ _
theorem setMw_chg (w:World) (g j:Nat) (x:Mv):Chg (fun b=>b=g) w (setMw w g j x):=set9_chg _ _ _ _ _ _ _ _ _ _ _ _
theorem zR_ {w:World} {base g cap n:Nat} {N:List Nv} (h:w.ownsRow base 42 9 (.slice (some ⟨g,0,none⟩) n cap) n (zI_ N)) (j:Nat) (hj:j<N.length) (hn:n=N.length):g<w.heap.size∧w.cell? ⟨g,j*9,none⟩=some (.int .i64 N[j].n.id)∧w.cell? ⟨g,j*9+1,none⟩=some (.int .i64 N[j].n.pe)∧w.cell? ⟨g,j*9+2,none⟩=some (.int .i64 N[j].n.te)∧w.cell? ⟨g,j*9+3,none⟩=some (.int .i64 N[j].n.vo)∧w.cell? ⟨g,j*9+4,none⟩=some (.slice N[j].la N[j].n.log.length N[j].lc)∧w.cell? ⟨g,j*9+5,none⟩=some (.int .i64 N[j].n.co)∧w.cell? ⟨g,j*9+6,none⟩=some (.int .i64 N[j].n.ro)∧w.cell? ⟨g,j*9+7,none⟩=some (.slice N[j].va N[j].n.vs.length N[j].vc)∧w.cell? ⟨g,j*9+8,none⟩=some (.slice N[j].ma N[j].n.mt.length N[j].mc):=by
 subst hn;obtain⟨g0,g1,g2,g3,g4,g5,g6,g7,g8⟩:=flatN_get N j hj;exact⟨(owns_lt h).2,by rw [h.cellAt (j*9) (by omega),g0],by rw [h.cellAt (j*9+1) (by omega),g1],by rw [h.cellAt (j*9+2) (by omega),g2],by rw [h.cellAt (j*9+3) (by omega),g3],by rw [h.cellAt (j*9+4) (by omega),g4],by rw [h.cellAt (j*9+5) (by omega),g5],by rw [h.cellAt (j*9+6) (by omega),g6],by rw [h.cellAt (j*9+7) (by omega),g7],by rw [h.cellAt (j*9+8) (by omega),g8]⟩
theorem ownM_at {w:World} {base g cap n:Nat} {N:List Mv} (h:w.ownsRow base 80 9 (.slice (some ⟨g,0,none⟩) n cap) n (zo_ N)) (j:Nat) (hj:j<N.length) (hn:n=N.length):g<w.heap.size∧w.cell? ⟨g,j*9,none⟩=some (.int .i64 N[j].q.ki)∧w.cell? ⟨g,j*9+1,none⟩=some (.int .i64 N[j].q.fr)∧w.cell? ⟨g,j*9+2,none⟩=some (.int .i64 N[j].q.dst)∧w.cell? ⟨g,j*9+3,none⟩=some (.int .i64 N[j].q.te)∧w.cell? ⟨g,j*9+4,none⟩=some (.int .i64 N[j].q.ix)∧w.cell? ⟨g,j*9+5,none⟩=some (.int .i64 N[j].q.be)∧w.cell? ⟨g,j*9+6,none⟩=some (.slice N[j].ea N[j].q.es.length N[j].ec)∧w.cell? ⟨g,j*9+7,none⟩=some (.int .i64 N[j].q.co)∧w.cell? ⟨g,j*9+8,none⟩=some (.bool N[j].q.ye):=by
 subst hn;obtain⟨g0,g1,g2,g3,g4,g5,g6,g7,g8⟩:=flatM_get N j hj;exact⟨(owns_lt h).2,by rw [h.cellAt (j*9) (by omega),g0],by rw [h.cellAt (j*9+1) (by omega),g1],by rw [h.cellAt (j*9+2) (by omega),g2],by rw [h.cellAt (j*9+3) (by omega),g3],by rw [h.cellAt (j*9+4) (by omega),g4],by rw [h.cellAt (j*9+5) (by omega),g5],by rw [h.cellAt (j*9+6) (by omega),g6],by rw [h.cellAt (j*9+7) (by omega),g7],by rw [h.cellAt (j*9+8) (by omega),g8]⟩
theorem frz9 {w:World} {base:Nat} {e:TypeId} {size g cap n:Nat} {xs:List Value} (h:w.ownsRow base e size (.slice (some ⟨g,0,none⟩) n cap) n xs) (o:Nat):w.frozen? ⟨g,o,none⟩=false∧w.frozen? ⟨g,o+1,none⟩=false∧w.frozen? ⟨g,o+2,none⟩=false∧w.frozen? ⟨g,o+3,none⟩=false∧w.frozen? ⟨g,o+4,none⟩=false∧w.frozen? ⟨g,o+5,none⟩=false∧w.frozen? ⟨g,o+6,none⟩=false∧w.frozen? ⟨g,o+7,none⟩=false∧w.frozen? ⟨g,o+8,none⟩=false:=
 ⟨h.frozenAt _,h.frozenAt _,h.frozenAt _,h.frozenAt _,h.frozenAt _,h.frozenAt _,h.frozenAt _,h.frozenAt _,h.frozenAt _⟩
end Go.Proofs.YtapfhhmimkkhnaaGreat
