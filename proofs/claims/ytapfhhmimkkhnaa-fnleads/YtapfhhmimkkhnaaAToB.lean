/-
  Plain functions of chapter 2, no program: a number's bytes, what is taken of bytes, the sum's table and the sum.
  Plain facts on worlds and lists, no program: a slice of pairs (a text and a number), a struct's box, what a call that writes nothing old leaves.
-/
import Derived.WalkKit
import Derived.ProofKit
import Derived.Below
import Derived.Deep.RegionHeld3
namespace Go.Proofs.Ytapfhhmimkkhnaa
open Go.RowKit
def bcs (l:List UInt8):List Value:=l.map fun c=> .int .u8 (c.toNat:Int)
def tk (s:List UInt8):Nat→Nat→Nat→Nat×Nat
 | 0,_,_=>(0,0)
 | f+1,k,n=>
  match s[k]? with
  | none=>(0,0)
  | some c=>if c.toNat<128 then (if 0<k∧c.toNat=0 then (0,0) else (n+c.toNat % 128*128 ^ k,k+1)) else tk s f (k+1) (n+c.toNat % 128*128 ^ k)
def take (s:List UInt8):Nat×Nat:=tk s 9 0 0
def cb (n:Nat):Nat:=if n % 2=1 then (n / 2) ^^^ 2197175160 else n / 2
theorem zc_ (w:World) (o:Obj):Below w.heap.size w (w.alloc o):=(Below.refl _ _).alloc (Nat.le_refl _) _
def PL (w:World) (v:Value) (l:List (ByteArray×Int)):Prop:=
 ∃a cap,v= .slice a l.length cap∧(l≠ []→∃b off,a=some ⟨b,off,none⟩∧b<w.heap.size∧
  ∀i (h:i<l.length),w.cell? ⟨b,off+i*2,none⟩=some (.string l[i].1)∧w.cell? ⟨b,off+i*2+1,none⟩=some (.int .i64 l[i].2))
theorem PL.below {w w':World} {v:Value} {l:List (ByteArray×Int)} (h:PL w v l) (hb:Below w.heap.size w w'):PL w' v l:=by
 obtain⟨a,cap,hv,hc⟩:=h;refine⟨a,cap,hv,fun hl=> ?_⟩;obtain⟨b,off,ha,hbl,hcell⟩:=hc hl;refine⟨b,off,ha,Nat.lt_of_lt_of_le hbl hb.size,fun i hi=> ?_⟩;rw [hb.cell (p:=⟨b,off+i*2,none⟩) hbl,hb.cell (p:=⟨b,off+i*2+1,none⟩) hbl];exact hcell i hi
theorem zd_ {w w':World} {base:Nat} {e:TypeId} {size:Nat} {v:Value} {n:Nat} {xs:List Value} (h:w.ownsRow base e size v n xs) (hb:Below w.heap.size w w'):w'.ownsRow base e size v n xs:=by
 obtain⟨hl,h⟩:=h;refine⟨hl,?_⟩;rcases h with h | ⟨g,cap,cur,hv,hbg,hh,h⟩
 ·exact .inl h
 ·refine .inr ⟨g,cap,cur,hv,hbg,?_,h⟩;rw [hb.block g (by have:=(Array.getElem?_eq_some_iff.1 hh).1;exact this)];exact hh
def part (l:List (ByteArray×Int)) (k:Nat):List (ByteArray×Int):=l.take k++List.replicate (l.length-k) (⟨#[]⟩,0)
def Box (w:World) (b:Nat) (vs:List Value):Prop:=b<w.heap.size∧(∀j v,vs[j]? =some v→w.cell? ⟨b,j,none⟩=some v)∧∀j,w.frozen? ⟨b,j,none⟩=false
theorem Box.below {w w':World} {b:Nat} {vs:List Value} (h:Box w b vs) (hb:Below w.heap.size w w'):Box w' b vs:=
 ⟨Nat.lt_of_lt_of_le h.1 hb.size,fun j v hv=>(hb.cell (p:=⟨b,j,none⟩) h.1).trans (h.2.1 j v hv),fun j=>(hb.frozen (p:=⟨b,j,none⟩) h.1).trans (h.2.2 j)⟩
theorem Box.alloc {w:World} {b:Nat} {vs:List Value} (h:Box w b vs) (o:Obj):Box (w.alloc o) b vs:=h.below (zc_ _ _)
theorem Box.new (w:World) (cs:Array Value) (t:TypeId):Box (w.alloc (.cells cs t)) w.heap.size cs.toList:=
 ⟨by simp,fun j v hv=>by simpa using hv,fun j=>by simp⟩
theorem Box.set {w:World} {b:Nat} {vs:List Value} (h:Box w b vs) (i:Nat) (u:Value) (hi:i<vs.length):Box (w.setCell ⟨b,i,none⟩ u) b (vs.set i u):=by
 refine⟨by simpa using h.1,fun j v hv=> ?_,fun j=>by simpa using h.2.2 j⟩;by_cases hj:j=i
 ·subst hj;rw [List.getElem?_set_self hi] at hv;have hc:=h.2.1 j _ (List.getElem?_eq_getElem hi);rw [World.cell?_setCell_same _ _ _ hc];exact hv
 ·rw [List.getElem?_set_ne (by omega)] at hv;rw [World.cell?_setCell_other _ _ _ _ (fun e=>hj (congrArg Addr.off e).symm)];exact h.2.1 j v hv
theorem Box.setOther {w:World} {b:Nat} {vs:List Value} (h:Box w b vs) (a:Addr) (u:Value) (ha:a.block≠b):Box (w.setCell a u) b vs:=by
 refine⟨by simpa using h.1,fun j v hv=> ?_,fun j=>by simpa using h.2.2 j⟩;rw [World.cell?_setCell_other _ _ _ _ (by intro e;rw [e] at ha;simp at ha)];exact h.2.1 j v hv
theorem Box.c2 {w:World} {b:Nat} {v0 v1:Value} (h:Box w b [v0,v1]):b<w.heap.size∧w.cell? ⟨b,0,none⟩=some v0∧w.cell? ⟨b,1,none⟩=some v1:=
 ⟨h.1,h.2.1 0 _ rfl,h.2.1 1 _ rfl⟩
theorem Box.c4 {w:World} {b:Nat} {v0 v1 v2 v3:Value} (h:Box w b [v0,v1,v2,v3]):b<w.heap.size∧w.cell? ⟨b,0,none⟩=some v0∧w.cell? ⟨b,1,none⟩=some v1∧w.cell? ⟨b,2,none⟩=some v2∧w.cell? ⟨b,3,none⟩=some v3:=
 ⟨h.1,h.2.1 0 _ rfl,h.2.1 1 _ rfl,h.2.1 2 _ rfl,h.2.1 3 _ rfl⟩
theorem PL.alloc {w:World} {v:Value} {l:List (ByteArray×Int)} (h:PL w v l) (o:Obj):PL (w.alloc o) v l:=h.below (zc_ _ _)
theorem below2 (w:World) (o p:Obj):Below w.heap.size w ((w.alloc o).alloc p):=(zc_ _ _).alloc (by simp) _
theorem below3 (w:World) (o p q:Obj):Below w.heap.size w (((w.alloc o).alloc p).alloc q):=(below2 _ _ _).alloc (by simp;omega) _
theorem za_ {a b c:World} (h:Below a.heap.size a b) (k:Below b.heap.size b c):Below a.heap.size a c:=h.trans (k.mono h.size)
theorem owns_lt {w:World} {base:Nat} {e:TypeId} {size g cap n:Nat} {xs:List Value} (h:w.ownsRow base e size (.slice (some ⟨g,0,none⟩) n cap) n xs):base≤g∧g<w.heap.size:=by
 rcases h.2 with⟨h,_⟩ | ⟨g',c,cur,h,hb,hh,_⟩
 ·simp at h
 ·simp only [Value.slice.injEq,Option.some.injEq,Addr.mk.injEq,and_true,true_and] at h;rw [←h.1] at hh hb;exact⟨hb,(Array.getElem?_eq_some_iff.1 hh).1⟩
instance instCoeZ : Coe Int Value := ⟨.int .i64⟩
instance instCoeN : Coe Nat Value := ⟨fun n => .int .i64 n⟩
instance instCoeU : Coe Unit Value := ⟨fun _ => .slice none 0 0⟩
inductive ZN_
  | zN
inductive ZM_
  | zM
inductive Z3_
  | z3
export ZN_ (zN)
export ZM_ (zM)
export Z3_ (z3)
instance : Coe ZN_ (List Value) := ⟨fun _ => [.int .i64 0, .int .i64 0, .int .i64 0, .int .i64 0, .slice none 0 0, .int .i64 0, .int .i64 0, .slice none 0 0, .slice none 0 0]⟩
instance : Coe ZN_ (Array Value) := ⟨fun _ => #[.int .i64 0, .int .i64 0, .int .i64 0, .int .i64 0, .slice none 0 0, .int .i64 0, .int .i64 0, .slice none 0 0, .slice none 0 0]⟩
instance : Coe ZM_ (List Value) := ⟨fun _ => [.int .i64 0, .int .i64 0, .int .i64 0, .int .i64 0, .int .i64 0, .int .i64 0, .slice none 0 0, .int .i64 0, .bool false]⟩
instance : Coe ZM_ (Array Value) := ⟨fun _ => #[.int .i64 0, .int .i64 0, .int .i64 0, .int .i64 0, .int .i64 0, .int .i64 0, .slice none 0 0, .int .i64 0, .bool false]⟩
instance : Coe Z3_ (List Value) := ⟨fun _ => [.slice none 0 0, .slice none 0 0, .slice none 0 0]⟩
instance : Coe Z3_ (Array Value) := ⟨fun _ => #[.slice none 0 0, .slice none 0 0, .slice none 0 0]⟩
instance instCoeB : Coe Bool Value := ⟨.bool⟩
instance instCoeS : Coe ByteArray Value := ⟨.string⟩
theorem sA_ {α : Type} (l : List α) (i : Nat) (a : α) : l.toArray.setIfInBounds i a = (l.set i a).toArray := List.setIfInBounds_toArray ..
theorem sB_ {α : Type} (x : α) (l : List α) (a : α) : (x :: l).set 0 a = a :: l := rfl
theorem sC_ {α : Type} (x : α) (l : List α) (n : Nat) (a : α) : (x :: l).set (n + 1) a = x :: l.set n a := rfl
theorem bx1_0 (w : World) (c0 : List Value) (t0 : TypeId) : Box (w.alloc (.cells c0.toArray t0)) (w.heap.size) c0 := by
  have := Box.new w c0.toArray t0
  simpa using this
theorem bx2_0 (w : World) (c0 : List Value) (t0 : TypeId) (c1 : List Value) (t1 : TypeId) : Box ((w.alloc (.cells c0.toArray t0)).alloc (.cells c1.toArray t1)) (w.heap.size) c0 := by
  have := (Box.new w c0.toArray t0).alloc (.cells c1.toArray t1)
  simpa using this
theorem bx2_1 (w : World) (c0 : List Value) (t0 : TypeId) (c1 : List Value) (t1 : TypeId) : Box ((w.alloc (.cells c0.toArray t0)).alloc (.cells c1.toArray t1)) (w.heap.size + 1) c1 := by
  have := Box.new (w.alloc (.cells c0.toArray t0)) c1.toArray t1
  simpa using this
theorem bx3_0 (w : World) (c0 : List Value) (t0 : TypeId) (c1 : List Value) (t1 : TypeId) (c2 : List Value) (t2 : TypeId) : Box (((w.alloc (.cells c0.toArray t0)).alloc (.cells c1.toArray t1)).alloc (.cells c2.toArray t2)) (w.heap.size) c0 := by
  have := ((Box.new w c0.toArray t0).alloc (.cells c1.toArray t1)).alloc (.cells c2.toArray t2)
  simpa using this
theorem bx3_1 (w : World) (c0 : List Value) (t0 : TypeId) (c1 : List Value) (t1 : TypeId) (c2 : List Value) (t2 : TypeId) : Box (((w.alloc (.cells c0.toArray t0)).alloc (.cells c1.toArray t1)).alloc (.cells c2.toArray t2)) (w.heap.size + 1) c1 := by
  have := (Box.new (w.alloc (.cells c0.toArray t0)) c1.toArray t1).alloc (.cells c2.toArray t2)
  simpa using this
theorem bx3_2 (w : World) (c0 : List Value) (t0 : TypeId) (c1 : List Value) (t1 : TypeId) (c2 : List Value) (t2 : TypeId) : Box (((w.alloc (.cells c0.toArray t0)).alloc (.cells c1.toArray t1)).alloc (.cells c2.toArray t2)) (w.heap.size + 1 + 1) c2 := by
  have := Box.new ((w.alloc (.cells c0.toArray t0)).alloc (.cells c1.toArray t1)) c2.toArray t2
  simpa using this
theorem bx4_0 (w : World) (c0 : List Value) (t0 : TypeId) (c1 : List Value) (t1 : TypeId) (c2 : List Value) (t2 : TypeId) (c3 : List Value) (t3 : TypeId) : Box ((((w.alloc (.cells c0.toArray t0)).alloc (.cells c1.toArray t1)).alloc (.cells c2.toArray t2)).alloc (.cells c3.toArray t3)) (w.heap.size) c0 := by
  have := (((Box.new w c0.toArray t0).alloc (.cells c1.toArray t1)).alloc (.cells c2.toArray t2)).alloc (.cells c3.toArray t3)
  simpa using this
theorem bx4_1 (w : World) (c0 : List Value) (t0 : TypeId) (c1 : List Value) (t1 : TypeId) (c2 : List Value) (t2 : TypeId) (c3 : List Value) (t3 : TypeId) : Box ((((w.alloc (.cells c0.toArray t0)).alloc (.cells c1.toArray t1)).alloc (.cells c2.toArray t2)).alloc (.cells c3.toArray t3)) (w.heap.size + 1) c1 := by
  have := ((Box.new (w.alloc (.cells c0.toArray t0)) c1.toArray t1).alloc (.cells c2.toArray t2)).alloc (.cells c3.toArray t3)
  simpa using this
theorem bx4_2 (w : World) (c0 : List Value) (t0 : TypeId) (c1 : List Value) (t1 : TypeId) (c2 : List Value) (t2 : TypeId) (c3 : List Value) (t3 : TypeId) : Box ((((w.alloc (.cells c0.toArray t0)).alloc (.cells c1.toArray t1)).alloc (.cells c2.toArray t2)).alloc (.cells c3.toArray t3)) (w.heap.size + 1 + 1) c2 := by
  have := (Box.new ((w.alloc (.cells c0.toArray t0)).alloc (.cells c1.toArray t1)) c2.toArray t2).alloc (.cells c3.toArray t3)
  simpa using this
theorem bx4_3 (w : World) (c0 : List Value) (t0 : TypeId) (c1 : List Value) (t1 : TypeId) (c2 : List Value) (t2 : TypeId) (c3 : List Value) (t3 : TypeId) : Box ((((w.alloc (.cells c0.toArray t0)).alloc (.cells c1.toArray t1)).alloc (.cells c2.toArray t2)).alloc (.cells c3.toArray t3)) (w.heap.size + 1 + 1 + 1) c3 := by
  have := Box.new (((w.alloc (.cells c0.toArray t0)).alloc (.cells c1.toArray t1)).alloc (.cells c2.toArray t2)) c3.toArray t3
  simpa using this
theorem al1 (w : World) (c0 : List Value) (t0 : TypeId) : ∃ W, W = w.alloc (.cells c0.toArray t0) ∧ Below w.heap.size w W ∧ Box W (w.heap.size) c0 ∧ w.heap.size + 1 ≤ W.heap.size := ⟨_, rfl, zc_ _ _, bx1_0 .., by simp⟩
theorem al2 (w : World) (c0 : List Value) (t0 : TypeId) (c1 : List Value) (t1 : TypeId) : ∃ W, W = (w.alloc (.cells c0.toArray t0)).alloc (.cells c1.toArray t1) ∧ Below w.heap.size w W ∧ Box W (w.heap.size) c0 ∧ Box W (w.heap.size + 1) c1 ∧ w.heap.size + 1 + 1 ≤ W.heap.size := ⟨_, rfl, below2 _ _ _, bx2_0 .., bx2_1 .., by simp⟩
theorem al3 (w : World) (c0 : List Value) (t0 : TypeId) (c1 : List Value) (t1 : TypeId) (c2 : List Value) (t2 : TypeId) : ∃ W, W = ((w.alloc (.cells c0.toArray t0)).alloc (.cells c1.toArray t1)).alloc (.cells c2.toArray t2) ∧ Below w.heap.size w W ∧ Box W (w.heap.size) c0 ∧ Box W (w.heap.size + 1) c1 ∧ Box W (w.heap.size + 1 + 1) c2 ∧ w.heap.size + 1 + 1 + 1 ≤ W.heap.size := ⟨_, rfl, below3 _ _ _ _, bx3_0 .., bx3_1 .., bx3_2 .., by simp⟩
theorem al4 (w : World) (c0 : List Value) (t0 : TypeId) (c1 : List Value) (t1 : TypeId) (c2 : List Value) (t2 : TypeId) (c3 : List Value) (t3 : TypeId) : ∃ W, W = (((w.alloc (.cells c0.toArray t0)).alloc (.cells c1.toArray t1)).alloc (.cells c2.toArray t2)).alloc (.cells c3.toArray t3) ∧ Below w.heap.size w W ∧ Box W (w.heap.size) c0 ∧ Box W (w.heap.size + 1) c1 ∧ Box W (w.heap.size + 1 + 1) c2 ∧ Box W (w.heap.size + 1 + 1 + 1) c3 ∧ w.heap.size + 1 + 1 + 1 + 1 ≤ W.heap.size := ⟨_, rfl, ((below3 _ _ _ _).alloc (by simp; omega) _), bx4_0 .., bx4_1 .., bx4_2 .., bx4_3 .., by simp⟩
theorem tkH {P : Program} {md : Region.Mode} {ops : Array Oper} {Q : Exit → Act → World → Prop} {S : World → Prop} {fuel : Nat} {listed : Array Bool} {a : Act} {w : World} {d : Option Tmp} {op : Op} {t : TypeId} {p : String} {e : Array Edge} {g : Option (Nat × Bool)} (i : Nat) (v : Value) (hi : ops[i]? = some ⟨d, op, t, p, e, g⟩) (hy : ∀ w, S w → (execOp a.eval ⟨d, op, t, p, e, g⟩).run P w = .ok (.value v) w)
    (h : wpAnyH P md ops Q S fuel (listed.setIfInBounds i true) (a.put d v) w) (hQ : ∀ c a w, Q (.panic c) (a.put d v) w → Q (.panic c) a w := by exact fun _ _ _ h => h) (hg : Region.wanted ⟨d, op, t, p, e, g⟩ (yielded ops a.tmps) = true := by rfl) (hs : Region.noSelect ops = true := by kernel_rfl) (hf : Region.free md ops listed i = true := by kernel_rfl) (hr : (Region.ready md ops listed).contains i = true := by kernel_rfl) (hS : S w := by assumption) : wpAnyH P md ops Q S (fuel + 1) listed a w :=
  wpAnyH_take (oi := ⟨d, op, t, p, e, g⟩) hi hs hf hr hQ (Or.inl ⟨hg, hy⟩) hS h
theorem rd1 {P : Program} {md : Region.Mode} {ops : Array Oper} {Q : Exit → Act → World → Prop} {S : World → Prop} {fuel : Nat} {listed : Array Bool} {a : Act} {w : World} {d0 : Option Tmp} {o0 : Op} {t0 : TypeId} {p0 : String} {e0 : Array Edge} {g0 : Option (Nat × Bool)} (i0 : Nat) (h0 : ops[i0]? = some ⟨d0, o0, t0, p0, e0, g0⟩) (c0 : ∀ K' : Act → World → Prop, Shut (∀ a w, S w → (S w → wpAnyH P md ops Q S fuel (listed.setIfInBounds i0 true) a w) → K' a w) → if Region.wanted ⟨d0, o0, t0, p0, e0, g0⟩ (yielded ops a.tmps) = true then Oper.wp P ⟨d0, o0, t0, p0, e0, g0⟩ a w K' Q else K' (a.put d0 undef) w) (hr : Region.ready md ops listed = [i0] := by kernel_rfl) : wpAnyH P md ops Q S (fuel + 1) listed a w := wpAnyH_ready hr (by simp) (AllReadyH.cons h0 c0 AllReadyH.nil)
theorem rd2 {P : Program} {md : Region.Mode} {ops : Array Oper} {Q : Exit → Act → World → Prop} {S : World → Prop} {fuel : Nat} {listed : Array Bool} {a : Act} {w : World} {d0 : Option Tmp} {o0 : Op} {t0 : TypeId} {p0 : String} {e0 : Array Edge} {g0 : Option (Nat × Bool)} {d1 : Option Tmp} {o1 : Op} {t1 : TypeId} {p1 : String} {e1 : Array Edge} {g1 : Option (Nat × Bool)} (i0 i1 : Nat) (h0 : ops[i0]? = some ⟨d0, o0, t0, p0, e0, g0⟩) (h1 : ops[i1]? = some ⟨d1, o1, t1, p1, e1, g1⟩) (c0 : ∀ K' : Act → World → Prop, Shut (∀ a w, S w → (S w → wpAnyH P md ops Q S fuel (listed.setIfInBounds i0 true) a w) → K' a w) → if Region.wanted ⟨d0, o0, t0, p0, e0, g0⟩ (yielded ops a.tmps) = true then Oper.wp P ⟨d0, o0, t0, p0, e0, g0⟩ a w K' Q else K' (a.put d0 undef) w) (c1 : ∀ K' : Act → World → Prop, Shut (∀ a w, S w → (S w → wpAnyH P md ops Q S fuel (listed.setIfInBounds i1 true) a w) → K' a w) → if Region.wanted ⟨d1, o1, t1, p1, e1, g1⟩ (yielded ops a.tmps) = true then Oper.wp P ⟨d1, o1, t1, p1, e1, g1⟩ a w K' Q else K' (a.put d1 undef) w) (hr : Region.ready md ops listed = [i0, i1] := by kernel_rfl) : wpAnyH P md ops Q S (fuel + 1) listed a w := wpAnyH_ready hr (by simp) (AllReadyH.cons h0 c0 (AllReadyH.cons h1 c1 AllReadyH.nil))
theorem rd3 {P : Program} {md : Region.Mode} {ops : Array Oper} {Q : Exit → Act → World → Prop} {S : World → Prop} {fuel : Nat} {listed : Array Bool} {a : Act} {w : World} {d0 : Option Tmp} {o0 : Op} {t0 : TypeId} {p0 : String} {e0 : Array Edge} {g0 : Option (Nat × Bool)} {d1 : Option Tmp} {o1 : Op} {t1 : TypeId} {p1 : String} {e1 : Array Edge} {g1 : Option (Nat × Bool)} {d2 : Option Tmp} {o2 : Op} {t2 : TypeId} {p2 : String} {e2 : Array Edge} {g2 : Option (Nat × Bool)} (i0 i1 i2 : Nat) (h0 : ops[i0]? = some ⟨d0, o0, t0, p0, e0, g0⟩) (h1 : ops[i1]? = some ⟨d1, o1, t1, p1, e1, g1⟩) (h2 : ops[i2]? = some ⟨d2, o2, t2, p2, e2, g2⟩) (c0 : ∀ K' : Act → World → Prop, Shut (∀ a w, S w → (S w → wpAnyH P md ops Q S fuel (listed.setIfInBounds i0 true) a w) → K' a w) → if Region.wanted ⟨d0, o0, t0, p0, e0, g0⟩ (yielded ops a.tmps) = true then Oper.wp P ⟨d0, o0, t0, p0, e0, g0⟩ a w K' Q else K' (a.put d0 undef) w) (c1 : ∀ K' : Act → World → Prop, Shut (∀ a w, S w → (S w → wpAnyH P md ops Q S fuel (listed.setIfInBounds i1 true) a w) → K' a w) → if Region.wanted ⟨d1, o1, t1, p1, e1, g1⟩ (yielded ops a.tmps) = true then Oper.wp P ⟨d1, o1, t1, p1, e1, g1⟩ a w K' Q else K' (a.put d1 undef) w) (c2 : ∀ K' : Act → World → Prop, Shut (∀ a w, S w → (S w → wpAnyH P md ops Q S fuel (listed.setIfInBounds i2 true) a w) → K' a w) → if Region.wanted ⟨d2, o2, t2, p2, e2, g2⟩ (yielded ops a.tmps) = true then Oper.wp P ⟨d2, o2, t2, p2, e2, g2⟩ a w K' Q else K' (a.put d2 undef) w) (hr : Region.ready md ops listed = [i0, i1, i2] := by kernel_rfl) : wpAnyH P md ops Q S (fuel + 1) listed a w := wpAnyH_ready hr (by simp) (AllReadyH.cons h0 c0 (AllReadyH.cons h1 c1 (AllReadyH.cons h2 c2 AllReadyH.nil)))
end Go.Proofs.Ytapfhhmimkkhnaa
