/-
  Messages without entries, in a row: rows of nine cells; eqRaftMsgS, markRaftMsgS, heldRaftMsgS.
  The messages that ask the others: asksToOthers.
  A vote counted where none stood: BinarySearch and Insert on nothing, leading.
  votedBy of one's own vote where none stood.
  impl.TimeoutNode: where it refuses; votedBy in one.
  impl.TimeoutNode: where it asks.
  spec.TimeoutNode: where it refuses; l11Lead.
  l11Lead of one alone.
  Nothing is committed where no entry is of the new Term; an asker has no Match.
-/
import Derived.Test.YtapfhhmimkkhnaaF5ToRF8
import Derived.Deep.Cut
import Derived.Deep.RegionHeld3
import Derived.Test.YtapfhhmimkkhnaaK1ToKC3
namespace Go.Proofs.Ytapfhhmimkkhnaa
open Go.RowKit Go.Maps
set_option linter.unusedVariables false
set_option maxRecDepth 100000
structure Mq where
 ki:Int
 fr:Int
 dst:Int
 te:Int
 ix:Int
 be:Int
 co:Int
 ye:Bool
def flat9:List Mq→List Value
 | []=> []
 | s::r=> .int .i64 s.ki:: .int .i64 s.fr:: .int .i64 s.dst:: .int .i64 s.te:: .int .i64 s.ix:: .int .i64 s.be:: .slice none 0 0:: .int .i64 s.co:: .bool s.ye::flat9 r
theorem flat9_append (l m:List Mq):flat9 (l++m)=flat9 l++flat9 m:=by
 induction l with
 | nil=>rfl
 | cons x r ih=>simp only [List.cons_append,flat9,ih]
def MR (w:World) (v:Value) (l:List Mq):Prop:=
 ∃a cap,v= .slice a l.length cap∧(l≠ []→∃b off,a=some ⟨b,off,none⟩∧b<w.heap.size∧
  ∀i (h:i<l.length),w.cell? ⟨b,off+i*9,none⟩=some (.int .i64 l[i].ki)∧w.cell? ⟨b,off+i*9+1,none⟩=some (.int .i64 l[i].fr)∧w.cell? ⟨b,off+i*9+2,none⟩=some (.int .i64 l[i].dst)∧w.cell? ⟨b,off+i*9+3,none⟩=some (.int .i64 l[i].te)∧w.cell? ⟨b,off+i*9+4,none⟩=some (.int .i64 l[i].ix)∧w.cell? ⟨b,off+i*9+5,none⟩=some (.int .i64 l[i].be)∧w.cell? ⟨b,off+i*9+6,none⟩=some (.slice none 0 0)∧w.cell? ⟨b,off+i*9+7,none⟩=some (.int .i64 l[i].co)∧w.cell? ⟨b,off+i*9+8,none⟩=some (.bool l[i].ye))
theorem MR.below {w w':World} {v:Value} {l:List Mq} (h:MR w v l) (hb:Below w.heap.size w w'):MR w' v l:=by
 obtain⟨a,cap,hv,hc⟩:=h;refine⟨a,cap,hv,fun hl=> ?_⟩;obtain⟨b,off,ha,hbl,hcell⟩:=hc hl;refine⟨b,off,ha,Nat.lt_of_lt_of_le hbl hb.size,fun i hi=> ?_⟩;obtain⟨c0,c1,c2,c3,c4,c5,c6,c7,c8⟩:=hcell i hi;exact⟨(hb.cell (p:=⟨b,off+i*9,none⟩) hbl).trans c0,(hb.cell (p:=⟨b,off+i*9+1,none⟩) hbl).trans c1,(hb.cell (p:=⟨b,off+i*9+2,none⟩) hbl).trans c2,(hb.cell (p:=⟨b,off+i*9+3,none⟩) hbl).trans c3,(hb.cell (p:=⟨b,off+i*9+4,none⟩) hbl).trans c4,(hb.cell (p:=⟨b,off+i*9+5,none⟩) hbl).trans c5,(hb.cell (p:=⟨b,off+i*9+6,none⟩) hbl).trans c6,(hb.cell (p:=⟨b,off+i*9+7,none⟩) hbl).trans c7,(hb.cell (p:=⟨b,off+i*9+8,none⟩) hbl).trans c8⟩
def zT_ (id te n b:Int):Nat→List Mq
 | 0=> []
 | k+1=>zT_ id te n b k++(if (k:Int)=id then [] else [⟨1,id,k,te,n,b,0,false⟩])
theorem asksTo_le (id te n b:Int) (k:Nat):(zT_ id te n b k).length≤k:=by
 induction k with
 | zero=>simp [zT_]
 | succ k ih=>simp only [zT_,List.length_append];split <;>simp <;>omega
theorem Try.info38:(Try.prog.info? 38).map (fun i=>(i.zero,i.size,i.bytes))=some (some (.agg zM),9,88):=by kernel_rfl
theorem mk1_run (w:World):(Sem.run Try.prog (Instr.makeSlice 24 (.int .i64 1) (.int .i64 1)) w)= .ok (.slice (some ⟨w.heap.size,0,none⟩) 1 1) (w.alloc (.cells #[(0:Int)] 3)):=by kernel_rfl
theorem IL_one {w:World} {b:Nat} {x:Int} (h:Box w b [x]):IL w (.slice (some ⟨b,0,none⟩) 1 1) [x]:=by
 refine⟨_,_,rfl,fun _=>⟨b,0,rfl,h.1,fun i hi=> ?_⟩⟩;obtain rfl:i=0:=by simp at hi;omega
 exact h.2.1 0 _ rfl
def tmOk (g:Bool) (ro te:Int):Bool:=g&&(decide (ro≠2)&&decide (te<1000))
def tmN (id pe te co:Int) (log:List En):Nd:=if pe<2 then⟨id,pe,te+1,id,co,2,log,[],[(log.length:Int)]⟩ else⟨id,pe,te+1,id,co,1,log,[id],[]⟩
theorem tmOk_cases (g:Bool) (ro te:Int):(tmOk g ro te=true∧g=true∧¬ro=2∧te<1000)∨(tmOk g ro te=false∧(g=false∨(g=true∧(ro=2∨(¬ro=2∧1000≤te))))):=by
 unfold tmOk
 cases g
 ·exact .inr ⟨rfl,.inl rfl⟩
 ·by_cases h1:ro=2
  ·exact .inr ⟨by simp [h1],.inr ⟨rfl,.inl h1⟩⟩
  ·by_cases h2:te<1000
   ·exact .inl ⟨by simp [h1,h2],rfl,h1,h2⟩
   ·exact .inr ⟨by simp [h2],.inr ⟨rfl,.inr ⟨h1,by omega⟩⟩⟩
theorem goodN_bounds {id pe te vo co ro:Int} {log:List En} {vs mt:List Int} (h:zk_ id pe te vo co ro log vs mt=true):0≤id∧id<pe∧pe≤7∧0≤te∧log.length≤60:=by
 rw [zK_] at h;simp [inB] at h;omega
set_option maxHeartbeats 8000000
theorem goodN_te {id pe te vo co ro:Int} {log:List En} {vs mt:List Int} (h:zk_ id pe te vo co ro log vs mt=true):te≤1000:=by
 rw [zK_] at h;simp [inB] at h;omega
theorem specTime_no (id pe te vo co ro:Int) (vl vv vm:Value) (log:List En) (vs mt:List Int) (base:Nat) (w:World) (ho:OwnN w base vl vv vm log vs mt) (nl:log.length≤1048576) (nv:vs.length≤1048576) (nm:mt.length≤1048576) (ns:∀i (h:i<log.length),log[i].d.size≤1048576) (he:tmOk (zk_ id pe te vo co ro log vs mt) ro te=false):
  Calls Try.prog 24 #[.agg #[id,pe,te,vo,vl,co,ro,vv,vm]] w fun e w'=>∃ul uv um,e= .returned (.tuple #[.agg #[(0:Int),(0:Int),(0:Int),(0:Int),ul,(0:Int),(0:Int),uv,um],(),false])∧OwnN w' w.heap.size ul uv um [] [] []∧Below w.heap.size w w':=by
 obtain⟨W0,hW0,hB,X,Y,hz00⟩:=al2 w [id,pe,te,vo,vl,co,ro,vv,vm] 26 zN 26;have ho0:=ho.below hB;have K:=zt_ id pe te vo co ro vl vv vm log vs mt _ ho0.er ho0.iv ho0.im nl nv nm ns;have HG:zk_ id pe te vo co ro log vs mt=true→te≤1000:=goodN_te;generalize zk_ id pe te vo co ro log vs mt=g at*;obtain⟨⟨la,lc,rfl⟩,⟨va,vc,rfl⟩,ma,mc,rfl⟩:=ho.shapes;clear ns ho0 ho;rcases tmOk_cases g ro te with⟨h,_⟩ | ⟨_,hcs⟩
 ·rw [he] at h;cases h
 clear he;go_enter Try.func24,Try.ntmps24;go_wp2_with fail;rw [←hW0];clear hW0;refine K.mono ?_;rintro e w1 ⟨rfl,hb⟩;replace hB:=za_ hB hb;replace Y:=Y.below hb;replace X:=X.below hb;clear K hb;have hC:=zo_ w1 (w.heap.size+1) (0:Int) (0:Int) (0:Int) (0:Int) () (0:Int) (0:Int) () ();have Z:=zp_ Y (0:Int) (0:Int) (0:Int) (0:Int) () (0:Int) (0:Int) () ();have hBE:=hB.trans (hC.b1 hB.size (by omega));have O:=OwnN.nil (put9 w1 (w.heap.size+1) (.int .i64 0) (.int .i64 0) (.int .i64 0) (.int .i64 0) (.slice none 0 0) (.int .i64 0) (.int .i64 0) (.slice none 0 0) (.slice none 0 0)) w.heap.size;obtain⟨hxl,x0,x1,x2,x3,x4,x5,x6,x7,x8⟩:=X.e9;obtain⟨hyl,y0,y1,y2,y3,y4,y5,y6,y7,y8⟩:=Y.e9;obtain⟨f0,f1,f2,f3,f4,f5,f6,f7,f8⟩:=Y.f9;obtain⟨hzl,t0,t1,t2,t3,t4,t5,t6,t7,t8⟩:=Z.e9;clear Z hC hB Y X;unfold put9 at*;rcases hcs with rfl | ⟨rfl,hcs⟩
 ·go_wp2;exact bodyPost_ret (v:= .tuple #[.agg zN,(),false]) (by simp [results,Try.results24,go_sem,t0,t1,t2,t3,t4,t5,t6,t7,t8]) rfl ⟨_,_,_,rfl,O,hBE⟩
 rcases hcs with rfl | ⟨h1,h2⟩
 ·go_wp2;exact bodyPost_ret (v:= .tuple #[.agg zN,(),false]) (by simp [results,Try.results24,go_sem,t0,t1,t2,t3,t4,t5,t6,t7,t8]) rfl ⟨_,_,_,rfl,O,hBE⟩
 ·obtain rfl:te=1000:=by have:=HG rfl;omega
  have h1b:(ro==2)=false:=by simp [h1]
  go_wp2;exact bodyPost_ret (v:= .tuple #[.agg zN,(),false]) (by simp [results,Try.results24,go_sem,t0,t1,t2,t3,t4,t5,t6,t7,t8]) rfl ⟨_,_,_,rfl,O,hBE⟩
theorem l11Lead_one (te vo co ro:Int) (la:Option Addr) (lc:Nat) (log:List En) (va:Option Addr) (vn vc:Nat) (ma:Option Addr) (mn mc:Nat) (w:World) (hl:ER w (.slice la log.length lc) log) (nl:log.length≤1048576) (hc0:0≤co):
  Calls Try.prog 77 #[.agg #[(0:Int),(1:Int),te,vo,.slice la log.length lc,co,ro,.slice va vn vc,.slice ma mn mc]] w fun e w'=>∃u,e= .returned (.agg #[(0:Int),(1:Int),te,vo,.slice la log.length lc,(zr_ te 1 co log [(log.length:Int)] log.length:Int),(2:Int),(),u])∧w'.ownsRow w.heap.size 3 1 u 1 ([(log.length:Int)].map (.int .i64))∧Below w.heap.size w w':=by
 have MK:=mk1_run;obtain⟨W0,hW0⟩:∃W0,W0=(w.alloc (.cells #[(0:Int),(1:Int),te,vo,.slice la log.length lc,co,(2:Int),(),.slice (some ⟨w.heap.size+1+1,0,none⟩) 1 1] 26)).alloc (.cells zN 26):=⟨_,rfl⟩;have hs:W0.heap.size=w.heap.size+1+1:=by rw [hW0];simp
 have hB:Below w.heap.size w W0:=by rw [hW0];exact below2 _ _ _
 have Y:Box W0 (w.heap.size+1) zN:=by rw [hW0];exact bx2_1 ..
 have XX:Box W0 w.heap.size [(0:Int),(1:Int),te,vo,.slice la log.length lc,co,(2:Int),(),.slice (some ⟨w.heap.size+1+1,0,none⟩) 1 1]:=by rw [hW0];exact (Box.new w #[(0:Int),(1:Int),te,vo,.slice la log.length lc,co,(2:Int),(),.slice (some ⟨w.heap.size+1+1,0,none⟩) 1 1] 26).alloc _
 have BA:=zc_ W0 (.cells #[(log.length:Int)] 3);have V:=Box.new W0 #[(log.length:Int)] 3;have ho:=World.ownsRow_lit (base:=w.heap.size) (size:=1) (e:=3) W0 #[(log.length:Int)] 1 (by omega) (by simp [maxLen]) (by simp);rw [hs] at ho V;have gu:=ze_ ho;have hIL:=IL_one V;have hN:IL (W0.alloc (.cells #[(log.length:Int)] 3)) (.slice none 0 0) []:=⟨_,_,rfl,fun h=>absurd rfl h⟩;have KC:=l11Commit_any 0 1 te vo co _ _ _ log [] [(log.length:Int)] _ ((hl.below hB).below BA) hN hIL nl (by simp) hc0;replace Y:=Y.below BA;replace XX:=XX.below BA;replace hB:=za_ hB BA;clear BA V hIL hN;generalize zr_ te 1 co log [(log.length:Int)] log.length=cm at*;go_enter Try.func77,Try.ntmps77;go_wp2_with fail;rw [←hW0];refine KC.mono ?_;rintro e w1 ⟨rfl,hb⟩;replace hB:=za_ hB hb;replace Y:=Y.below hb;replace ho:=zd_ ho hb;have hgu:w.heap.size+1+1≠w.heap.size+1:=by omega
 clear KC hb hW0 XX MK;have hC:=zo_ w1 (w.heap.size+1) (0:Int) (.int .i64 1) te vo (.slice la log.length lc) cm (.int .i64 2) () (.slice (some ⟨w.heap.size+1+1,0,none⟩) 1 1);have Z:=zp_ Y (0:Int) (.int .i64 1) te vo (.slice la log.length lc) cm (.int .i64 2) () (.slice (some ⟨w.heap.size+1+1,0,none⟩) 1 1);have hBE:=hB.trans (hC.b1 hB.size (by omega));have oE:=hC.owns ho (fun b hb hh=>by have hh:b=w.heap.size+1:=hh;have hb:w.heap.size+1+1=b:=(by simpa [Value.ownBlock] using hb);omega);obtain⟨ql,q0,q1,q2,q3,q4,q5,q6,q7,q8⟩:=Y.e9;obtain⟨h0,h1,h2,h3,h4,h5,h6,h7,h8⟩:=Y.f9;clear hC ho hB Y gu;obtain⟨hzl,t0,t1,t2,t3,t4,t5,t6,t7,t8⟩:=Z.e9;clear Z;unfold put9 at*;go_wp2;exact bodyPost_ret (v:= .agg #[(0:Int),(1:Int),te,vo,.slice la log.length lc,cm,(2:Int),(),.slice (some ⟨w.heap.size+1+1,0,none⟩) 1 1]) (by simp [results,Try.results77,go_sem,t0,t1,t2,t3,t4,t5,t6,t7,t8]) rfl ⟨_,rfl,oE,hBE⟩
end Go.Proofs.Ytapfhhmimkkhnaa
namespace Go.Proofs.Ytapfhhmimkkhnaa
open Go.RowKit Go.Maps
set_option linter.unusedVariables false
theorem gE_le (T:Int) (l:List En):∀a,gE T a l=true→∀k (h:k<l.length),l[k].t≤T:=by
 induction l with
 | nil=>intro a _ k h;simp at h
 | cons e r ih=>
  intro a hg k h;simp only [gE,Bool.and_eq_true,decide_eq_true_eq] at hg
  cases k with
  | zero=>exact hg.1.2
  | succ k=>exact ih _ hg.2 k (by simpa using h)
theorem comTo_none (te pe co:Int) (log:List En) (mt:List Int) (hn:∀k (h:k<log.length),log[k].t≠te):∀k,k≤log.length→zr_ te pe co log mt k=co:=by
 intro k
 induction k with
 | zero=>intro _;rfl
 | succ k ih=>
  intro hk;have h1:=hn k (by omega);have h2:log.getD k En.zero=log[k]:=by simp [List.getD,show k<log.length from by omega]
  unfold zr_;have h3:¬(log[k].t=te∧pe<2*(cI ((k+1:Nat):Int) mt:Int)):=fun h=>h1 h.1;rw [h2];simp only [h3,if_false,ih (by omega),ite_self]
theorem goodN_gE {id pe te vo co ro:Int} {log:List En} {vs mt:List Int} (h:zk_ id pe te vo co ro log vs mt=true):∀k (h:k<log.length),log[k].t≤te:=by
 rw [zK_] at h;simp only [Bool.and_eq_true] at h;exact gE_le te log 0 h.2.2.2.2.1.1
theorem goodN_newCom {id pe te vo co ro:Int} {log:List En} {vs mt:List Int} (h:zk_ id pe te vo co ro log vs mt=true) (p:Int) (m:List Int):zr_ (te+1) p co log m log.length=co:=
 comTo_none _ _ _ _ _ (fun k hk=>by have:=goodN_gE h k hk;omega) _ (Nat.le_refl _)
theorem goodN_mt0 {id pe te vo co ro:Int} {log:List En} {vs mt:List Int} (h:zk_ id pe te vo co ro log vs mt=true) (h2:¬ro=2):mt= []:=by
 rw [zK_] at h;simp only [Bool.and_eq_true] at h;have h':=h.2.2.2.2.2.2.2;unfold zC_ at h';simp [h2] at h';rcases h' with h' | h'
 ·exact h'.2.2
 ·exact h'.2.2
end Go.Proofs.Ytapfhhmimkkhnaa
