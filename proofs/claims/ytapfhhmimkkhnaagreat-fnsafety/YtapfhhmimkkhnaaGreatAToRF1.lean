/-
  Plain functions of chapter 2, no program: a number's bytes, what is taken of bytes, the sum's table and the sum.
  Plain facts on worlds and lists, no program: a slice of pairs (a text and a number), a struct's box, what a call that writes nothing old leaves.
  A region that draws its order and holds calls that only make new memory and answer one value, whatever the world: one walk, in the order of the text (the library's theorem on quiet regions, at the class 'as it was below block B').
  A scope in which the run jumps back to one label, the way to the label and the way behind it walked once each.
  spec.l2Var, spec.VarBytes, impl.VarBytes: a number's bytes.
  What a call that writes into some blocks alone leaves; a row that is marked, and a row that is held against its marks.
  NewSkip: both; slices of numbers: eqIntS, markIntS, heldIntS; the helpers of a list without towers.
  laws.markText; slices of texts: eqStringS, markStringS, heldStringS.
  Entries in a row: rows of two cells; szEntryS, toEntryS, eqEntryS.
  Agreement, plainly: logs that begin alike, majorities, and what every leader has (Ongaro and Ousterhout).
-/
import Derived.WalkKit
import Derived.ProofKit
import Derived.Below
import Derived.Deep.RegionHeld3
import Derived.Deep.QuietTactic
import Derived.BigQuiet
import Derived.ScopeJumps
import Derived.Tactics
import Derived.Test.YtapfhhmimkkhnaaGreatProg
import Derived.WalkLawsBesides
import Derived.OwnWalk
import Derived.WalkMore
import Derived.Laws.IdiomStrings
import Derived.Laws.Concat
namespace Go.Proofs.YtapfhhmimkkhnaaGreat
open Go.RowKit
def tk (s:List UInt8):Nat→Nat→Nat→Nat×Nat
 | 0,_,_=>(0,0)
 | f+1,k,n=>
  match s[k]? with
  | none=>(0,0)
  | some c=>if c.toNat<128 then (if 0<k∧c.toNat=0 then (0,0) else (n+c.toNat % 128*128 ^ k,k+1)) else tk s f (k+1) (n+c.toNat % 128*128 ^ k)
def take (s:List UInt8):Nat×Nat:=tk s 9 0 0
def cb (n:Nat):Nat:=if n % 2=1 then (n / 2) ^^^ 2197175160 else n / 2
theorem zb_ (w:World) (o:Obj):Below w.heap.size w (w.alloc o):=(Below.refl _ _).alloc (Nat.le_refl _) _
def PL (w:World) (v:Value) (l:List (ByteArray×Int)):Prop:=
 ∃a cap,v= .slice a l.length cap∧(l≠ []→∃b off,a=some ⟨b,off,none⟩∧b<w.heap.size∧
  ∀i (h:i<l.length),w.cell? ⟨b,off+i*2,none⟩=some (.string l[i].1)∧w.cell? ⟨b,off+i*2+1,none⟩=some (.int .i64 l[i].2))
theorem PL.below {w w':World} {v:Value} {l:List (ByteArray×Int)} (h:PL w v l) (hb:Below w.heap.size w w'):PL w' v l:=by
 obtain⟨a,cap,hv,hc⟩:=h;refine⟨a,cap,hv,fun hl=> ?_⟩;obtain⟨b,off,ha,hbl,hcell⟩:=hc hl;refine⟨b,off,ha,Nat.lt_of_lt_of_le hbl hb.size,fun i hi=> ?_⟩;rw [hb.cell (p:=⟨b,off+i*2,none⟩) hbl,hb.cell (p:=⟨b,off+i*2+1,none⟩) hbl];exact hcell i hi
theorem zd_ {w w':World} {base:Nat} {e:TypeId} {size:Nat} {v:Value} {n:Nat} {xs:List Value} (h:w.ownsRow base e size v n xs) (hb:Below w.heap.size w w'):w'.ownsRow base e size v n xs:=by
 obtain⟨hl,h⟩:=h;refine⟨hl,?_⟩;rcases h with h | ⟨g,cap,cur,hv,hbg,hh,h⟩
 ·exact .inl h
 ·refine .inr ⟨g,cap,cur,hv,hbg,?_,h⟩;rw [hb.block g (by have:=(Array.getElem?_eq_some_iff.1 hh).1;exact this)];exact hh
def part (l:List (ByteArray×Int)) (k:Nat):List (ByteArray×Int):=l.take k++List.replicate (l.length-k) (⟨#[]⟩,0)
def Box (w:World) (b:Nat) (vs:List Value):Prop:=b<w.heap.size∧(∀j v,vs[j]? =some v→w.cell? ⟨b,j,none⟩=some v)∧∀j,w.frozen? ⟨b,j,none⟩=false
theorem Box.below {w w':World} {b:Nat} {vs:List Value} (h:Box w b vs) (hb:Below w.heap.size w w'):Box w' b vs:=
 ⟨Nat.lt_of_lt_of_le h.1 hb.size,fun j v hv=>(hb.cell (p:=⟨b,j,none⟩) h.1).trans (h.2.1 j v hv),fun j=>(hb.frozen (p:=⟨b,j,none⟩) h.1).trans (h.2.2 j)⟩
theorem Box.alloc {w:World} {b:Nat} {vs:List Value} (h:Box w b vs) (o:Obj):Box (w.alloc o) b vs:=h.below (zb_ _ _)
theorem Box.new (w:World) (cs:Array Value) (t:TypeId):Box (w.alloc (.cells cs t)) w.heap.size cs.toList:=
 ⟨by simp,fun j v hv=>by simpa using hv,fun j=>by simp⟩
theorem Box.set {w:World} {b:Nat} {vs:List Value} (h:Box w b vs) (i:Nat) (u:Value) (hi:i<vs.length):Box (w.setCell ⟨b,i,none⟩ u) b (vs.set i u):=by
 refine⟨by simpa using h.1,fun j v hv=> ?_,fun j=>by simpa using h.2.2 j⟩;by_cases hj:j=i
 ·subst hj;rw [List.getElem?_set_self hi] at hv;have hc:=h.2.1 j _ (List.getElem?_eq_getElem hi);rw [World.cell?_setCell_same _ _ _ hc];exact hv
 ·rw [List.getElem?_set_ne (by omega)] at hv;rw [World.cell?_setCell_other _ _ _ _ (fun e=>hj (congrArg Addr.off e).symm)];exact h.2.1 j v hv
theorem Box.setOther {w:World} {b:Nat} {vs:List Value} (h:Box w b vs) (a:Addr) (u:Value) (ha:a.block≠b):Box (w.setCell a u) b vs:=by
 refine⟨by simpa using h.1,fun j v hv=> ?_,fun j=>by simpa using h.2.2 j⟩;rw [World.cell?_setCell_other _ _ _ _ (by intro e;rw [e] at ha;simp at ha)];exact h.2.1 j v hv
theorem Box.c2 {w:World} {b:Nat} {v0 v1:Value} (h:Box w b [v0,v1]):b<w.heap.size∧w.cell? ⟨b,0,none⟩=some v0∧w.cell? ⟨b,1,none⟩=some v1:=
 ⟨h.1,h.2.1 0 _ rfl,h.2.1 1 _ rfl⟩
theorem Box.c4 {w:World} {b:Nat} {v0 v1 v2 v3:Value} (h:Box w b [v0,v1,v2,v3]):b<w.heap.size∧w.cell? ⟨b,0,none⟩=some v0∧w.cell? ⟨b,1,none⟩=some v1∧w.cell? ⟨b,2,none⟩=some v2∧w.cell? ⟨b,3,none⟩=some v3:=
 ⟨h.1,h.2.1 0 _ rfl,h.2.1 1 _ rfl,h.2.1 2 _ rfl,h.2.1 3 _ rfl⟩
theorem PL.alloc {w:World} {v:Value} {l:List (ByteArray×Int)} (h:PL w v l) (o:Obj):PL (w.alloc o) v l:=h.below (zb_ _ _)
theorem below2 (w:World) (o p:Obj):Below w.heap.size w ((w.alloc o).alloc p):=(zb_ _ _).alloc (by simp) _
theorem pH_ (w:World) (o p q:Obj):Below w.heap.size w (((w.alloc o).alloc p).alloc q):=(below2 _ _ _).alloc (by simp;omega) _
theorem za_ {a b c:World} (h:Below a.heap.size a b) (k:Below b.heap.size b c):Below a.heap.size a c:=h.trans (k.mono h.size)
theorem xk_ {w:World} {base:Nat} {e:TypeId} {size g cap n:Nat} {xs:List Value} (h:w.ownsRow base e size (.slice (some ⟨g,0,none⟩) n cap) n xs):base≤g∧g<w.heap.size:=by
 rcases h.2 with⟨h,_⟩ | ⟨g',c,cur,h,hb,hh,_⟩
 ·simp at h
 ·simp only [Value.slice.injEq,Option.some.injEq,Addr.mk.injEq,and_true,true_and] at h;rw [←h.1] at hh hb;exact⟨hb,(Array.getElem?_eq_some_iff.1 hh).1⟩
instance instCoeZ : Coe Int Value := ⟨.int .i64⟩
instance instCoeN : Coe Nat Value := ⟨fun n => .int .i64 n⟩
instance instCoeU : Coe Unit Value := ⟨fun _ => .slice none 0 0⟩
inductive ZN_
  | zN
inductive ZM_
  | zM
inductive Z3_
  | z3
export ZN_ (zN)
export ZM_ (zM)
export Z3_ (z3)
instance : Coe ZN_ (List Value) := ⟨fun _ => [.int .i64 0, .int .i64 0, .int .i64 0, .int .i64 0, .slice none 0 0, .int .i64 0, .int .i64 0, .slice none 0 0, .slice none 0 0]⟩
instance : Coe ZN_ (Array Value) := ⟨fun _ => #[.int .i64 0, .int .i64 0, .int .i64 0, .int .i64 0, .slice none 0 0, .int .i64 0, .int .i64 0, .slice none 0 0, .slice none 0 0]⟩
instance : Coe ZM_ (List Value) := ⟨fun _ => [.int .i64 0, .int .i64 0, .int .i64 0, .int .i64 0, .int .i64 0, .int .i64 0, .slice none 0 0, .int .i64 0, .bool false]⟩
instance : Coe ZM_ (Array Value) := ⟨fun _ => #[.int .i64 0, .int .i64 0, .int .i64 0, .int .i64 0, .int .i64 0, .int .i64 0, .slice none 0 0, .int .i64 0, .bool false]⟩
instance : Coe Z3_ (List Value) := ⟨fun _ => [.slice none 0 0, .slice none 0 0, .slice none 0 0]⟩
instance : Coe Z3_ (Array Value) := ⟨fun _ => #[.slice none 0 0, .slice none 0 0, .slice none 0 0]⟩
instance instCoeB : Coe Bool Value := ⟨.bool⟩
instance instCoeS : Coe ByteArray Value := ⟨.string⟩
theorem sA_ {α : Type} (l : List α) (i : Nat) (a : α) : l.toArray.setIfInBounds i a = (l.set i a).toArray := List.setIfInBounds_toArray ..
theorem sB_ {α : Type} (x : α) (l : List α) (a : α) : (x :: l).set 0 a = a :: l := rfl
theorem sC_ {α : Type} (x : α) (l : List α) (n : Nat) (a : α) : (x :: l).set (n + 1) a = x :: l.set n a := rfl
theorem bx1_0 (w : World) (c0 : List Value) (t0 : TypeId) : Box (w.alloc (.cells c0.toArray t0)) (w.heap.size) c0 := by
  have := Box.new w c0.toArray t0
  simpa using this
theorem bx2_0 (w : World) (c0 : List Value) (t0 : TypeId) (c1 : List Value) (t1 : TypeId) : Box ((w.alloc (.cells c0.toArray t0)).alloc (.cells c1.toArray t1)) (w.heap.size) c0 := by
  have := (Box.new w c0.toArray t0).alloc (.cells c1.toArray t1)
  simpa using this
theorem bx2_1 (w : World) (c0 : List Value) (t0 : TypeId) (c1 : List Value) (t1 : TypeId) : Box ((w.alloc (.cells c0.toArray t0)).alloc (.cells c1.toArray t1)) (w.heap.size + 1) c1 := by
  have := Box.new (w.alloc (.cells c0.toArray t0)) c1.toArray t1
  simpa using this
theorem bx3_0 (w : World) (c0 : List Value) (t0 : TypeId) (c1 : List Value) (t1 : TypeId) (c2 : List Value) (t2 : TypeId) : Box (((w.alloc (.cells c0.toArray t0)).alloc (.cells c1.toArray t1)).alloc (.cells c2.toArray t2)) (w.heap.size) c0 := by
  have := ((Box.new w c0.toArray t0).alloc (.cells c1.toArray t1)).alloc (.cells c2.toArray t2)
  simpa using this
theorem bx3_1 (w : World) (c0 : List Value) (t0 : TypeId) (c1 : List Value) (t1 : TypeId) (c2 : List Value) (t2 : TypeId) : Box (((w.alloc (.cells c0.toArray t0)).alloc (.cells c1.toArray t1)).alloc (.cells c2.toArray t2)) (w.heap.size + 1) c1 := by
  have := (Box.new (w.alloc (.cells c0.toArray t0)) c1.toArray t1).alloc (.cells c2.toArray t2)
  simpa using this
theorem bx3_2 (w : World) (c0 : List Value) (t0 : TypeId) (c1 : List Value) (t1 : TypeId) (c2 : List Value) (t2 : TypeId) : Box (((w.alloc (.cells c0.toArray t0)).alloc (.cells c1.toArray t1)).alloc (.cells c2.toArray t2)) (w.heap.size + 1 + 1) c2 := by
  have := Box.new ((w.alloc (.cells c0.toArray t0)).alloc (.cells c1.toArray t1)) c2.toArray t2
  simpa using this
theorem bx4_0 (w : World) (c0 : List Value) (t0 : TypeId) (c1 : List Value) (t1 : TypeId) (c2 : List Value) (t2 : TypeId) (c3 : List Value) (t3 : TypeId) : Box ((((w.alloc (.cells c0.toArray t0)).alloc (.cells c1.toArray t1)).alloc (.cells c2.toArray t2)).alloc (.cells c3.toArray t3)) (w.heap.size) c0 := by
  have := (((Box.new w c0.toArray t0).alloc (.cells c1.toArray t1)).alloc (.cells c2.toArray t2)).alloc (.cells c3.toArray t3)
  simpa using this
theorem bx4_1 (w : World) (c0 : List Value) (t0 : TypeId) (c1 : List Value) (t1 : TypeId) (c2 : List Value) (t2 : TypeId) (c3 : List Value) (t3 : TypeId) : Box ((((w.alloc (.cells c0.toArray t0)).alloc (.cells c1.toArray t1)).alloc (.cells c2.toArray t2)).alloc (.cells c3.toArray t3)) (w.heap.size + 1) c1 := by
  have := ((Box.new (w.alloc (.cells c0.toArray t0)) c1.toArray t1).alloc (.cells c2.toArray t2)).alloc (.cells c3.toArray t3)
  simpa using this
theorem bx4_2 (w : World) (c0 : List Value) (t0 : TypeId) (c1 : List Value) (t1 : TypeId) (c2 : List Value) (t2 : TypeId) (c3 : List Value) (t3 : TypeId) : Box ((((w.alloc (.cells c0.toArray t0)).alloc (.cells c1.toArray t1)).alloc (.cells c2.toArray t2)).alloc (.cells c3.toArray t3)) (w.heap.size + 1 + 1) c2 := by
  have := (Box.new ((w.alloc (.cells c0.toArray t0)).alloc (.cells c1.toArray t1)) c2.toArray t2).alloc (.cells c3.toArray t3)
  simpa using this
theorem bx4_3 (w : World) (c0 : List Value) (t0 : TypeId) (c1 : List Value) (t1 : TypeId) (c2 : List Value) (t2 : TypeId) (c3 : List Value) (t3 : TypeId) : Box ((((w.alloc (.cells c0.toArray t0)).alloc (.cells c1.toArray t1)).alloc (.cells c2.toArray t2)).alloc (.cells c3.toArray t3)) (w.heap.size + 1 + 1 + 1) c3 := by
  have := Box.new (((w.alloc (.cells c0.toArray t0)).alloc (.cells c1.toArray t1)).alloc (.cells c2.toArray t2)) c3.toArray t3
  simpa using this
theorem al1 (w : World) (c0 : List Value) (t0 : TypeId) : ∃ W, W = w.alloc (.cells c0.toArray t0) ∧ Below w.heap.size w W ∧ Box W (w.heap.size) c0 ∧ w.heap.size + 1 ≤ W.heap.size := ⟨_, rfl, zb_ _ _, bx1_0 .., by simp⟩
theorem al2 (w : World) (c0 : List Value) (t0 : TypeId) (c1 : List Value) (t1 : TypeId) : ∃ W, W = (w.alloc (.cells c0.toArray t0)).alloc (.cells c1.toArray t1) ∧ Below w.heap.size w W ∧ Box W (w.heap.size) c0 ∧ Box W (w.heap.size + 1) c1 ∧ w.heap.size + 1 + 1 ≤ W.heap.size := ⟨_, rfl, below2 _ _ _, bx2_0 .., bx2_1 .., by simp⟩
theorem al3 (w : World) (c0 : List Value) (t0 : TypeId) (c1 : List Value) (t1 : TypeId) (c2 : List Value) (t2 : TypeId) : ∃ W, W = ((w.alloc (.cells c0.toArray t0)).alloc (.cells c1.toArray t1)).alloc (.cells c2.toArray t2) ∧ Below w.heap.size w W ∧ Box W (w.heap.size) c0 ∧ Box W (w.heap.size + 1) c1 ∧ Box W (w.heap.size + 1 + 1) c2 ∧ w.heap.size + 1 + 1 + 1 ≤ W.heap.size := ⟨_, rfl, pH_ _ _ _ _, bx3_0 .., bx3_1 .., bx3_2 .., by simp⟩
theorem al4 (w : World) (c0 : List Value) (t0 : TypeId) (c1 : List Value) (t1 : TypeId) (c2 : List Value) (t2 : TypeId) (c3 : List Value) (t3 : TypeId) : ∃ W, W = (((w.alloc (.cells c0.toArray t0)).alloc (.cells c1.toArray t1)).alloc (.cells c2.toArray t2)).alloc (.cells c3.toArray t3) ∧ Below w.heap.size w W ∧ Box W (w.heap.size) c0 ∧ Box W (w.heap.size + 1) c1 ∧ Box W (w.heap.size + 1 + 1) c2 ∧ Box W (w.heap.size + 1 + 1 + 1) c3 ∧ w.heap.size + 1 + 1 + 1 + 1 ≤ W.heap.size := ⟨_, rfl, ((pH_ _ _ _ _).alloc (by simp; omega) _), bx4_0 .., bx4_1 .., bx4_2 .., bx4_3 .., by simp⟩
theorem tkH {P : Program} {md : Region.Mode} {ops : Array Oper} {Q : Exit → Act → World → Prop} {S : World → Prop} {fuel : Nat} {listed : Array Bool} {a : Act} {w : World} {d : Option Tmp} {op : Op} {t : TypeId} {p : String} {e : Array Edge} {g : Option (Nat × Bool)} (i : Nat) (v : Value) (hi : ops[i]? = some ⟨d, op, t, p, e, g⟩) (hy : ∀ w, S w → (execOp a.eval ⟨d, op, t, p, e, g⟩).run P w = .ok (.value v) w)
    (h : wpAnyH P md ops Q S fuel (listed.setIfInBounds i true) (a.put d v) w) (hQ : ∀ c a w, Q (.panic c) (a.put d v) w → Q (.panic c) a w := by exact fun _ _ _ h => h) (hg : Region.wanted ⟨d, op, t, p, e, g⟩ (yielded ops a.tmps) = true := by rfl) (hs : Region.noSelect ops = true := by kernel_rfl) (hf : Region.free md ops listed i = true := by kernel_rfl) (hr : (Region.ready md ops listed).contains i = true := by kernel_rfl) (hS : S w := by assumption) : wpAnyH P md ops Q S (fuel + 1) listed a w :=
  wpAnyH_take (oi := ⟨d, op, t, p, e, g⟩) hi hs hf hr hQ (Or.inl ⟨hg, hy⟩) hS h
theorem rd1 {P : Program} {md : Region.Mode} {ops : Array Oper} {Q : Exit → Act → World → Prop} {S : World → Prop} {fuel : Nat} {listed : Array Bool} {a : Act} {w : World} {d0 : Option Tmp} {o0 : Op} {t0 : TypeId} {p0 : String} {e0 : Array Edge} {g0 : Option (Nat × Bool)} (i0 : Nat) (h0 : ops[i0]? = some ⟨d0, o0, t0, p0, e0, g0⟩) (c0 : ∀ K' : Act → World → Prop, Shut (∀ a w, S w → (S w → wpAnyH P md ops Q S fuel (listed.setIfInBounds i0 true) a w) → K' a w) → if Region.wanted ⟨d0, o0, t0, p0, e0, g0⟩ (yielded ops a.tmps) = true then Oper.wp P ⟨d0, o0, t0, p0, e0, g0⟩ a w K' Q else K' (a.put d0 undef) w) (hr : Region.ready md ops listed = [i0] := by kernel_rfl) : wpAnyH P md ops Q S (fuel + 1) listed a w := wpAnyH_ready hr (by simp) (AllReadyH.cons h0 c0 AllReadyH.nil)
theorem rd2 {P : Program} {md : Region.Mode} {ops : Array Oper} {Q : Exit → Act → World → Prop} {S : World → Prop} {fuel : Nat} {listed : Array Bool} {a : Act} {w : World} {d0 : Option Tmp} {o0 : Op} {t0 : TypeId} {p0 : String} {e0 : Array Edge} {g0 : Option (Nat × Bool)} {d1 : Option Tmp} {o1 : Op} {t1 : TypeId} {p1 : String} {e1 : Array Edge} {g1 : Option (Nat × Bool)} (i0 i1 : Nat) (h0 : ops[i0]? = some ⟨d0, o0, t0, p0, e0, g0⟩) (h1 : ops[i1]? = some ⟨d1, o1, t1, p1, e1, g1⟩) (c0 : ∀ K' : Act → World → Prop, Shut (∀ a w, S w → (S w → wpAnyH P md ops Q S fuel (listed.setIfInBounds i0 true) a w) → K' a w) → if Region.wanted ⟨d0, o0, t0, p0, e0, g0⟩ (yielded ops a.tmps) = true then Oper.wp P ⟨d0, o0, t0, p0, e0, g0⟩ a w K' Q else K' (a.put d0 undef) w) (c1 : ∀ K' : Act → World → Prop, Shut (∀ a w, S w → (S w → wpAnyH P md ops Q S fuel (listed.setIfInBounds i1 true) a w) → K' a w) → if Region.wanted ⟨d1, o1, t1, p1, e1, g1⟩ (yielded ops a.tmps) = true then Oper.wp P ⟨d1, o1, t1, p1, e1, g1⟩ a w K' Q else K' (a.put d1 undef) w) (hr : Region.ready md ops listed = [i0, i1] := by kernel_rfl) : wpAnyH P md ops Q S (fuel + 1) listed a w := wpAnyH_ready hr (by simp) (AllReadyH.cons h0 c0 (AllReadyH.cons h1 c1 AllReadyH.nil))
theorem rd3 {P : Program} {md : Region.Mode} {ops : Array Oper} {Q : Exit → Act → World → Prop} {S : World → Prop} {fuel : Nat} {listed : Array Bool} {a : Act} {w : World} {d0 : Option Tmp} {o0 : Op} {t0 : TypeId} {p0 : String} {e0 : Array Edge} {g0 : Option (Nat × Bool)} {d1 : Option Tmp} {o1 : Op} {t1 : TypeId} {p1 : String} {e1 : Array Edge} {g1 : Option (Nat × Bool)} {d2 : Option Tmp} {o2 : Op} {t2 : TypeId} {p2 : String} {e2 : Array Edge} {g2 : Option (Nat × Bool)} (i0 i1 i2 : Nat) (h0 : ops[i0]? = some ⟨d0, o0, t0, p0, e0, g0⟩) (h1 : ops[i1]? = some ⟨d1, o1, t1, p1, e1, g1⟩) (h2 : ops[i2]? = some ⟨d2, o2, t2, p2, e2, g2⟩) (c0 : ∀ K' : Act → World → Prop, Shut (∀ a w, S w → (S w → wpAnyH P md ops Q S fuel (listed.setIfInBounds i0 true) a w) → K' a w) → if Region.wanted ⟨d0, o0, t0, p0, e0, g0⟩ (yielded ops a.tmps) = true then Oper.wp P ⟨d0, o0, t0, p0, e0, g0⟩ a w K' Q else K' (a.put d0 undef) w) (c1 : ∀ K' : Act → World → Prop, Shut (∀ a w, S w → (S w → wpAnyH P md ops Q S fuel (listed.setIfInBounds i1 true) a w) → K' a w) → if Region.wanted ⟨d1, o1, t1, p1, e1, g1⟩ (yielded ops a.tmps) = true then Oper.wp P ⟨d1, o1, t1, p1, e1, g1⟩ a w K' Q else K' (a.put d1 undef) w) (c2 : ∀ K' : Act → World → Prop, Shut (∀ a w, S w → (S w → wpAnyH P md ops Q S fuel (listed.setIfInBounds i2 true) a w) → K' a w) → if Region.wanted ⟨d2, o2, t2, p2, e2, g2⟩ (yielded ops a.tmps) = true then Oper.wp P ⟨d2, o2, t2, p2, e2, g2⟩ a w K' Q else K' (a.put d2 undef) w) (hr : Region.ready md ops listed = [i0, i1, i2] := by kernel_rfl) : wpAnyH P md ops Q S (fuel + 1) listed a w := wpAnyH_ready hr (by simp) (AllReadyH.cons h0 c0 (AllReadyH.cons h1 c1 (AllReadyH.cons h2 c2 AllReadyH.nil)))
structure WC (B:Nat) (W:World) where
 w:World
 ok:Below B W w
theorem xj_ {P:Program} {B:Nat} {W:World} {id:Nat} {Q:Exit→Act→World→Prop} {a:Act} {w:World} {l:List Oper} (hm:P.follows .mixedOrders=true) (hB:Region.lexB .any l.toArray=true) (hw:Below B W w)
  (h:wpQuiet P l.toArray (fun w'=>∃n:WC B W,w'=n.w) (fun a'=>∀w',(∃n:WC B W,w'=n.w)→Q .normal a' w') l a):(Code.region id l.toArray true).wp P Q a w:=
 wp_region_quiet (C:=fun w'=>∃n:WC B W,w'=n.w) hm hB ⟨⟨w.drew,hw.drew⟩,rfl⟩ (by simpa using h)
theorem calm_of {P:Program} {B:Nat} {W:World} {f:FuncId} {args:Array Value} {x:WC B W} {v:Value}
  (h:Calls P f args x.w fun e w''=>e= .returned v∧Below B W w''):Calls P f args x.w fun e w''=>e= .returned v∧∃m:WC B W,w''=m.w:=
 h.mono fun _ w'' ⟨he,hb⟩=>⟨he,⟨w'',hb⟩,rfl⟩
theorem yW_ {P:Program} {B:Nat} {W:World} {f:FuncId} {args:Array Value} {x:WC B W} {v:Value} (hB:B≤W.heap.size)
  (h:Calls P f args x.w fun e w''=>e= .returned v∧Below x.w.heap.size x.w w''):Calls P f args x.w fun e w''=>e= .returned v∧∃m:WC B W,w''=m.w:=
 calm_of (h.mono fun _ _ ⟨he,hb⟩=>⟨he,x.ok.trans (hb.mono (Nat.le_trans hB x.ok.size))⟩)
end Go.Proofs.YtapfhhmimkkhnaaGreat
namespace Go.Proofs.YtapfhhmimkkhnaaGreat

end Go.Proofs.YtapfhhmimkkhnaaGreat
namespace Go.Proofs.YtapfhhmimkkhnaaGreat
open Go.RowKit
set_option maxRecDepth 100000
set_option linter.unusedVariables false
theorem zg_ {w:World} {base:Nat} {e:TypeId} {size:Nat} {v:Value} {n:Nat} {xs:List Value} (h:w.ownsRow base e size v n xs):∀g,v.ownBlock=some g→base≤g:=by
 intro g hg;rcases h.2 with⟨rfl,_⟩ | ⟨g',cap,cur,rfl,hb,_⟩
 ·simp [Value.ownBlock] at hg
 ·simp only [Value.ownBlock,Option.some.injEq] at hg;omega
end Go.Proofs.YtapfhhmimkkhnaaGreat
namespace Go.Proofs.YtapfhhmimkkhnaaGreat
open Go.RowKit
set_option linter.unusedVariables false
structure Chg (S:Nat→Prop) (w w':World):Prop where
 os:w'.os=w.os
 tape:w'.tape=w.tape
 output:w'.output=w.output
 size:w.heap.size≤w'.heap.size
 block:∀k,k<w.heap.size→¬S k→w'.heap[k]? =w.heap[k]?
theorem Chg.refl (S:Nat→Prop) (w:World):Chg S w w:=⟨rfl,rfl,rfl,Nat.le_refl _,fun _ _ _=>rfl⟩
theorem Chg.of_below {S:Nat→Prop} {w w':World} (h:Below w.heap.size w w'):Chg S w w':=⟨h.os,h.tape,h.output,h.size,fun k hk _=>h.block k hk⟩
theorem Chg.trans {S:Nat→Prop} {a b c:World} (h:Chg S a b) (k:Chg S b c):Chg S a c:=
 ⟨k.os.trans h.os,k.tape.trans h.tape,k.output.trans h.output,Nat.le_trans h.size k.size,fun j hj hs=>(k.block j (Nat.lt_of_lt_of_le hj h.size) hs).trans (h.block j hj hs)⟩
theorem Chg.mono {S T:Nat→Prop} {a b:World} (h:Chg S a b) (hst:∀k,S k→T k):Chg T a b:=⟨h.os,h.tape,h.output,h.size,fun k hk ht=>h.block k hk fun hs=>ht (hst k hs)⟩
theorem Chg.setCell {S:Nat→Prop} {a w:World} (h:Chg S a w) {p:Addr} (hp:S p.block) (u:Value):Chg S a (w.setCell p u):=
 ⟨h.os,h.tape,h.output,by simpa using h.size,fun k hk hs=>(Below.heap_setCell w p u k (fun e=>hs (e ▸ hp))).trans (h.block k hk hs)⟩
theorem Chg.below {S:Nat→Prop} {w w':World} (h:Chg S w w') {B:Nat} (hB:B≤w.heap.size) (hs:∀k,S k→B≤k):Below B w w':=
 ⟨h.os,h.tape,h.output,h.size,fun k hk=>h.block k (Nat.lt_of_lt_of_le hk hB) fun hk'=>by have:=hs k hk';omega⟩
theorem Chg.owns {S:Nat→Prop} {w w':World} (h:Chg S w w') {base:Nat} {e:TypeId} {size:Nat} {v:Value} {n:Nat} {xs:List Value} (ho:w.ownsRow base e size v n xs) (hs:∀g,v.ownBlock=some g→¬S g):w'.ownsRow base e size v n xs:=by
 obtain⟨hl,ho⟩:=ho;refine⟨hl,?_⟩;rcases ho with ho | ⟨g,cap,cur,hv,hbg,hh,ho⟩
 ·exact .inl ho
 ·refine .inr ⟨g,cap,cur,hv,hbg,?_,ho⟩;rw [h.block g (Array.getElem?_eq_some_iff.1 hh).1 (hs g (by rw [hv];rfl))];exact hh
theorem Chg.box {S:Nat→Prop} {w w':World} (h:Chg S w w') {b:Nat} {vs:List Value} (hx:Box w b vs) (hs:¬S b):Box w' b vs:=by
 have hb:=h.block b hx.1 hs;exact⟨Nat.lt_of_lt_of_le hx.1 h.size,fun j v hv=>(World.cell?_of_block (w:=w) (a:=⟨b,j,none⟩) hb).trans (hx.2.1 j v hv),fun j=>(World.frozen?_of_block (w:=w) (a:=⟨b,j,none⟩) hb).trans (hx.2.2 j)⟩
theorem Chg.b1 {w a:World} {b B:Nat} (h:Chg (fun k=>k=b) w a) (hs:B≤w.heap.size) (hb:B≤b):Below B w a:=h.below hs fun k hk=>by rw [hk];exact hb
end Go.Proofs.YtapfhhmimkkhnaaGreat
namespace Go.Proofs.YtapfhhmimkkhnaaGreat
open Go.RowKit
set_option linter.unusedVariables false
set_option maxRecDepth 100000
theorem Box.under {w w':World} {b B:Nat} {vs:List Value} (h:Box w b vs) (hb:Below B w w') (hB:b<B):Box w' b vs:=
 ⟨Nat.lt_of_lt_of_le h.1 hb.size,fun j v hv=>(hb.cell (p:=⟨b,j,none⟩) hB).trans (h.2.1 j v hv),fun j=>(hb.frozen (p:=⟨b,j,none⟩) hB).trans (h.2.2 j)⟩
def IL (w:World) (v:Value) (zs:List Int):Prop:=
 ∃a cap,v= .slice a zs.length cap∧(zs≠ []→∃b off,a=some ⟨b,off,none⟩∧b<w.heap.size∧∀i (h:i<zs.length),w.cell? ⟨b,off+i,none⟩=some (.int .i64 zs[i]))
theorem IL.below {w w':World} {v:Value} {zs:List Int} (h:IL w v zs) (hb:Below w.heap.size w w'):IL w' v zs:=by
 obtain⟨a,cap,hv,hc⟩:=h;refine⟨a,cap,hv,fun hl=> ?_⟩;obtain⟨b,off,ha,hbl,hcell⟩:=hc hl;exact⟨b,off,ha,Nat.lt_of_lt_of_le hbl hb.size,fun i hi=>(hb.cell (p:=⟨b,off+i,none⟩) hbl).trans (hcell i hi)⟩
theorem ym_ {w:World} {base n:Nat} {v:Value} {zs:List Int} (h:w.ownsRow base 3 1 v n (zs.map (.int .i64))) (hn:n=zs.length):IL w v zs:=by
 have h':=h;obtain⟨hl,h⟩:=h;rcases h with⟨rfl,h0⟩ | ⟨g,cap,cur,rfl,hbg,hh,hcap,hm,hsz,htk⟩
 ·refine⟨none,0,by rw [←hn,h0],fun hne=>absurd (List.length_eq_zero_iff.1 (by omega)) hne⟩
 ·refine⟨_,cap,by rw [hn],fun _=>⟨g,0,rfl,(Array.getElem?_eq_some_iff.1 hh).1,fun i hi=> ?_⟩⟩;rw [Nat.zero_add,h'.cellAt i (by omega)];simp [hi]
def mkI (k:Int) (n:Nat):List Value:=(List.range n).map fun i:Nat=> .int .i64 (k+(i:Int))
end Go.Proofs.YtapfhhmimkkhnaaGreat
namespace Go.Proofs.YtapfhhmimkkhnaaGreat
open Go.RowKit
set_option maxRecDepth 100000
set_option linter.unusedVariables false
def mkD:Nat→Nat→List UInt8→List UInt8
 | 0,_,acc=>acc
 | f+1,k,acc=>if k=0 then acc else mkD f (k / 10) (UInt8.ofNat (48+k % 10)::acc)
def mkT (k:Int):ByteArray:=if k≤0 then⟨#[109,48]⟩ else⟨(109::mkD 20 k.toNat []).toArray⟩
def SL (w:World) (v:Value) (l:List ByteArray):Prop:=
 ∃a cap,v= .slice a l.length cap∧(l≠ []→∃b off,a=some ⟨b,off,none⟩∧b<w.heap.size∧∀i (h:i<l.length),w.cell? ⟨b,off+i,none⟩=some (.string l[i]))
end Go.Proofs.YtapfhhmimkkhnaaGreat
namespace Go.Proofs.YtapfhhmimkkhnaaGreat
open Go.RowKit
set_option linter.unusedVariables false
set_option maxRecDepth 100000
structure En where
 t:Int
 d:ByteArray
def En.zero:En:=⟨0,⟨#[]⟩⟩
def zF_:List En→List Value
 | []=> []
 | s::r=> .int .i64 s.t:: .string s.d::zF_ r
theorem zV_ (l:List En):(zF_ l).length=l.length*2:=by
 induction l with
 | nil=>rfl
 | cons x r ih=>simp only [zF_,List.length_cons,ih];omega
theorem vL_ (l m:List En):zF_ (l++m)=zF_ l++zF_ m:=by
 induction l with
 | nil=>rfl
 | cons x r ih=>simp only [List.cons_append,zF_,ih]
theorem xJ_ (l:List En) (i:Nat) (h:i<l.length):(zF_ l)[i*2]? =some (.int .i64 l[i].t)∧(zF_ l)[i*2+1]? =some (.string l[i].d):=by
 induction l generalizing i with
 | nil=>simp at h
 | cons x r ih=>
  cases i with
  | zero=>exact⟨rfl,rfl⟩
  | succ i=>
   have:=ih i (by simpa using h);rw [show (i+1)*2=i*2+1+1 from by omega,show i*2+1+1+1=(i*2+1)+1+1 from by omega];simp only [zF_,List.getElem?_cons_succ,List.getElem_cons_succ];exact this
def ER (w:World) (v:Value) (l:List En):Prop:=
 ∃a cap,v= .slice a l.length cap∧(l≠ []→∃b off,a=some ⟨b,off,none⟩∧b<w.heap.size∧
  ∀i (h:i<l.length),w.cell? ⟨b,off+i*2,none⟩=some (.int .i64 l[i].t)∧w.cell? ⟨b,off+i*2+1,none⟩=some (.string l[i].d))
theorem ER.below {w w':World} {v:Value} {l:List En} (h:ER w v l) (hb:Below w.heap.size w w'):ER w' v l:=by
 obtain⟨a,cap,hv,hc⟩:=h;refine⟨a,cap,hv,fun hl=> ?_⟩;obtain⟨b,off,ha,hbl,hcell⟩:=hc hl;refine⟨b,off,ha,Nat.lt_of_lt_of_le hbl hb.size,fun i hi=> ?_⟩;obtain⟨c0,c1⟩:=hcell i hi;exact⟨(hb.cell (p:=⟨b,off+i*2,none⟩) hbl).trans c0,(hb.cell (p:=⟨b,off+i*2+1,none⟩) hbl).trans c1⟩
theorem ER_nil (w:World):ER w (.slice none 0 0) []:=⟨none,0,rfl,fun h=>absurd rfl h⟩
theorem yd_ {w:World} {base n:Nat} {e:TypeId} {v:Value} {l:List En} (h:w.ownsRow base e 2 v n (zF_ l)) (hn:n=l.length):ER w v l:=by
 subst hn;have h':=h;obtain⟨hl,h⟩:=h;rcases h with⟨rfl,h0⟩ | ⟨g,cap,cur,rfl,hbg,hh,hcap,hm,hsz,htk⟩
 ·exact⟨none,0,by rw [h0],fun hne=>absurd (List.length_eq_zero_iff.1 h0) hne⟩
 ·refine⟨_,cap,rfl,fun _=>⟨g,0,rfl,(Array.getElem?_eq_some_iff.1 hh).1,fun i hi=> ?_⟩⟩;obtain⟨g0,g1⟩:=xJ_ l i hi;rw [Nat.zero_add];exact⟨by rw [h'.cellAt (i*2) (by omega),g0],by rw [h'.cellAt (i*2+1) (by omega),g1]⟩
theorem Tryz.info44:(Tryz.prog.info? 44).map (fun i=>(i.zero,i.size,i.bytes))=some (some (.agg #[(0:Int),.string ⟨#[]⟩]),2,24):=by kernel_rfl
theorem xM_ {w w':World} (h:Below w.drew.heap.size w.drew w'):Below w.heap.size w w':=(Below.refl _ _).drew.trans h
end Go.Proofs.YtapfhhmimkkhnaaGreat
namespace Go.Proofs.YtapfhhmimkkhnaaGreat
set_option linter.unusedVariables false
def Has (P Q:List En) (x:Nat):Prop:=x≤P.length∧x≤Q.length∧P.take x=Q.take x
theorem Has.refl (P:List En) (x:Nat) (h:x≤P.length):Has P P x:=⟨h,h,rfl⟩
theorem Has.zero (P Q:List En):Has P Q 0:=⟨Nat.zero_le _,Nat.zero_le _,by simp⟩
theorem Has.symm {P Q:List En} {x:Nat} (h:Has P Q x):Has Q P x:=⟨h.2.1,h.1,h.2.2.symm⟩
theorem Has.trans {P Q R:List En} {x:Nat} (h:Has P Q x) (k:Has Q R x):Has P R x:=⟨h.1,k.2.1,h.2.2.trans k.2.2⟩
theorem Has.mono {P Q:List En} {x y:Nat} (h:Has P Q x) (hy:y≤x):Has P Q y:=by
 refine⟨Nat.le_trans hy h.1,Nat.le_trans hy h.2.1,?_⟩;have:=congrArg (List.take y) h.2.2
 rwa [List.take_take,List.take_take,Nat.min_eq_left hy] at this
theorem Has.at {P Q:List En} {x i:Nat} (h:Has P Q x) (hi:i<x):P[i]'(Nat.lt_of_lt_of_le hi h.1)=Q[i]'(Nat.lt_of_lt_of_le hi h.2.1):=by
 have:=congrArg (fun l=>l[i]?) h.2.2;have e1:i<P.length:=Nat.lt_of_lt_of_le hi h.1;have e2:i<Q.length:=Nat.lt_of_lt_of_le hi h.2.1;simpa [List.getElem?_take,hi,e1,e2] using this
theorem th_ (P:List En) (x y:Nat) (hx:x≤y) (hy:y≤P.length):Has (P.take y) P x:=by
 refine⟨by simp;omega,by omega,?_⟩;rw [List.take_take,Nat.min_eq_left hx]
theorem yG_ {P Q:List En} {x:Nat} (h:Has P Q x) (r:List En):Has P (Q++r) x:=by
 refine⟨h.1,by simp;have:=h.2.1;omega,?_⟩;rw [List.take_append_of_le_length h.2.1];exact h.2.2
def Srt (P:List En):Prop:=∀i j (hi:i<P.length) (hj:j<P.length),i≤j→P[i].t≤P[j].t
def Ok (LL:Int→List En) (P:List En):Prop:=∀i (h:i<P.length),Has P (LL P[i].t) (i+1)
theorem matching {LL:Int→List En} {P Q:List En} (hP:Ok LL P) (hQ:Ok LL Q) (i:Nat) (h1:i<P.length) (h2:i<Q.length) (e:P[i].t=Q[i].t):Has P Q (i+1):=by
 have a:=hP i h1;have b:=hQ i h2;rw [e] at a;exact a.trans b.symm
def vy_ (P:List En):Int:=if h:0<P.length then P[P.length-1].t else 0
theorem xG_ {P:List En} (h:0<P.length):vy_ P=(P[P.length-1]'(by omega)).t:=by unfold vy_;rw [dif_pos h]
def UpTo (P Q:List En):Prop:=vy_ Q<vy_ P∨(vy_ Q=vy_ P∧Q.length≤P.length)
open Classical in
noncomputable def cnt (p:Nat→Prop):Nat→Nat
 | 0=>0
 | n+1=>cnt p n+(if p n then 1 else 0)
theorem cnt_mono {p q:Nat→Prop} (n:Nat) (h:∀i,i<n→p i→q i):cnt p n≤cnt q n:=by
 induction n with
 | zero=>simp [cnt]
 | succ n ih=>
  have:=ih fun i hi=>h i (by omega);simp only [cnt];by_cases hp:p n
  ·rw [if_pos hp,if_pos (h n (by omega) hp)];omega
  ·rw [if_neg hp];omega
theorem cnt_disj {p q:Nat→Prop} (n:Nat) (h:∀i,i<n→¬(p i∧q i)):cnt p n+cnt q n≤n:=by
 induction n with
 | zero=>simp [cnt]
 | succ n ih=>
  have:=ih fun i hi=>h i (by omega);simp only [cnt];by_cases hp:p n
  ·have hq:¬q n:=fun hq=>h n (by omega) ⟨hp,hq⟩;rw [if_pos hp,if_neg hq];omega
  ·rw [if_neg hp];split <;>omega
def Maj (n:Nat) (p:Nat→Prop):Prop:=n<2*cnt p n
theorem Maj.mono {n:Nat} {p q:Nat→Prop} (h:Maj n p) (hi:∀i,i<n→p i→q i):Maj n q:=by have:=cnt_mono n hi;unfold Maj at*;omega
theorem Maj.meet {n:Nat} {p q:Nat→Prop} (h:Maj n p) (k:Maj n q):∃i,i<n∧p i∧q i:=by
 apply Classical.byContradiction;intro hn;have:=cnt_disj n (p:=p) (q:=q) fun i hi hh=>hn ⟨i,hi,hh.1,hh.2⟩;unfold Maj at*;omega
structure Gh where
 el:Int→Prop
 E:Int→List En
 LL:Int→List En
 ack:Nat→Int→Nat
def zJ_ (n:Nat) (g:Gh) (tm:Nat→Int):Prop:=
 ∀T U x,T<U→g.el U→∀h:x<(g.LL T).length,(g.LL T)[x].t=T→Has (g.E U) (g.LL T) (x+1)∨Maj n fun j=>T<tm j∧g.ack j T<x+1
def Kept (g:Gh) (P:List En) (j:Nat) (B:Int):Prop:=
 ∀T x,T<B→∀h:x<(g.LL T).length,(g.LL T)[x].t=T→x<g.ack j T→Has P (g.LL T) (x+1)∨∃U,T<U∧U<B∧g.el U∧¬Has (g.E U) (g.LL T) (x+1)
theorem rA_ {n:Nat} {g:Gh} {tm:Nat→Int} (W:Int) (P:List En) (S:Nat→List En) (vt:Nat→Prop)
  (hC:zJ_ n g tm) (hOkP:Ok g.LL P) (hSP:Srt P) (hPW:∀i (h:i<P.length),P[i].t<W)
  (hPel:∀i (h:i<P.length),g.el P[i].t) (hEL:∀U,g.el U→Has (g.E U) (g.LL U) (g.E U).length)
  (hSrtL:∀U,Srt (g.LL U)) (hpos:∀T x (h:x<(g.LL T).length),(g.LL T)[x].t=T→0<T)
  (hmaj:Maj n vt) (hvt:∀j,j<n→vt j→W≤tm j∧Ok g.LL (S j)∧Srt (S j)∧UpTo P (S j)∧Kept g (S j) j W):
  ∀T x,T<W→∀h:x<(g.LL T).length,(g.LL T)[x].t=T→Has P (g.LL T) (x+1)∨Maj n fun j=>T<tm j∧g.ack j T<x+1:=by
 intro T x hTW hx hxT;by_cases hB:∃U,T<U∧U<W∧g.el U∧¬Has (g.E U) (g.LL T) (x+1)
 ·obtain⟨U,h1,h2,h3,h4⟩:=hB;rcases hC T U x h1 h3 hx hxT with h | h
  ·exact absurd h h4
  ·exact .inr h
 by_cases hA:∃j,j<n∧vt j∧x<g.ack j T;rotate_left
 ·refine .inr (hmaj.mono fun j hj hv=> ?_);have h1:=(hvt j hj hv).1;have h2:¬x<g.ack j T:=fun h=>hA ⟨j,hj,hv,h⟩;exact⟨by omega,by omega⟩
 obtain⟨j,hj,hv,hak⟩:=hA;obtain⟨h1,hOS,hSS,hup,hkept⟩:=hvt j hj hv;have hS:Has (S j) (g.LL T) (x+1):=by
  rcases hkept T x hTW hx hxT hak with h | h
  ·exact h
  ·exact absurd h hB
 left
 have hSl:=hS.1;have hlS:0<(S j).length:=by omega
 have hxS:(S j)[x]'(by omega)=(g.LL T)[x]:=hS.at (by omega);have hTl:T≤vy_ (S j):=by
  rw [xG_ hlS];have:=hSS x ((S j).length-1) (by omega) (by omega) (by omega);rw [hxS,hxT] at this;exact this
 rcases hup with hlt | ⟨heq,hle⟩
 ·-- the rA_ one's last term is greater
  have hT0:=hpos T x hx hxT;have hlP:0<P.length:=by
   apply Classical.byContradiction;intro h0;have e:vy_ P=0:=by unfold vy_;rw [dif_neg h0]
   omega
  have hp:P.length-1<P.length:=by omega
  rw [xG_ hlP] at hlt;have hU:=hPW _ hp;have hel:=hPel _ hp;have hO:=hOkP _ hp;rw [show P.length-1+1=P.length from by omega] at hO;obtain⟨U,hUe⟩:∃U,(P[P.length-1]'hp).t=U:=⟨_,rfl⟩;rw [hUe] at hlt hU hel hO;have hE:Has (g.E U) (g.LL T) (x+1):=by
   apply Classical.byContradiction;intro h;exact hB ⟨U,by omega,hU,hel,h⟩
  have hLU:Has (g.LL U) (g.LL T) (x+1):=((hEL U hel).mono hE.1).symm.trans hE;have hlen:x+1≤P.length:=by
   apply Classical.byContradiction;intro h;have e1:P[P.length-1]=(g.LL T)[P.length-1]'(by omega):=(hO.at hp).trans (hLU.at (by omega));have e2:=hSrtL T (P.length-1) x (by omega) hx (by omega);have e4:=congrArg En.t e1;omega
  exact (hO.mono hlen).trans hLU
 ·have hlP:0<P.length:=by omega
  have hO:=hOkP (P.length-1) (by omega);have hQ:=hOS ((S j).length-1) (by omega);rw [xG_ hlP,xG_ hlS] at heq;rw [show P.length-1+1=P.length from by omega] at hO;rw [show (S j).length-1+1=(S j).length from by omega,heq] at hQ;exact (((hO.mono hle).trans hQ.symm).mono hSl).trans hS
end Go.Proofs.YtapfhhmimkkhnaaGreat
