/-
  A good cluster: the program's side.
-/
import Derived.Test.YtapfhhmimkkhnaaCE
import Derived.Test.YtapfhhmimkkhnaaM3b
namespace Go.Proofs.Ytapfhhmimkkhnaa
open Go.RowKit Go.Maps
set_option linter.unusedVariables false
set_option maxRecDepth 100000

def gNd (x : Nd) : Bool := goodN x.id x.pe x.te x.vo x.co x.ro x.log x.vs x.mt
def gMs (p : Nat) (q : Ms) : Bool := goodM p q.ki q.fr q.dst q.te q.ix q.be q.co q.ye q.es
def ndOk (p : Nat) (k : Nat) (x : Nd) : Bool := gNd x && (decide (x.id = (k : Int)) && decide (x.pe = (p : Int)))
def ldOk (p : Nat) (x : Ld) : Bool := (decide (1 ≤ x.t) && decide (x.t ≤ 1000)) && isP x.n p
def nodesOk (N : List Nd) : Bool := decide (∀ i (h : i < N.length), ndOk N.length i N[i] = true)
def netOk (p : Nat) (M : List Ms) : Bool := decide (∀ i (h : i < M.length), gMs p M[i] = true)
def leadsOk (p : Nat) (L : List Ld) : Bool := decide (∀ i (h : i < L.length), ldOk p L[i] = true)
/-- A good cluster. -/
def goodC (N : List Nd) (M : List Ms) (L : List Ld) : Bool :=
  (decide (1 ≤ N.length) && decide (N.length ≤ 7)) && (nodesOk N && (decide (M.length ≤ 60) && (netOk N.length M && (decide (L.length ≤ 1000) && leadsOk N.length L))))
theorem nodesOk_false {N : List Nv} {k : Nat} (h : k < N.length) (e : ndOk N.length k N[k].n = false) : nodesOk (N.map Nv.n) = false := by
  refine decide_eq_false fun ha => ?_
  have := ha k (by simpa using h)
  simp [e] at this
theorem nodesOk_true {N : List Nv} (ha : ∀ j (h : j < N.length), ndOk N.length j N[j].n = true) : nodesOk (N.map Nv.n) = true := by
  refine decide_eq_true fun i hi => ?_
  simp only [List.length_map] at hi
  simpa using ha i hi
theorem netOk_false {p : Nat} {M : List Mv} {k : Nat} (h : k < M.length) (e : gMs p M[k].q = false) : netOk p (M.map Mv.q) = false := by
  refine decide_eq_false fun ha => ?_
  have := ha k (by simpa using h)
  simp [e] at this
theorem netOk_true {p : Nat} {M : List Mv} (ha : ∀ j (h : j < M.length), gMs p M[j].q = true) : netOk p (M.map Mv.q) = true := by
  refine decide_eq_true fun i hi => ?_
  simp only [List.length_map] at hi
  simpa using ha i hi
theorem leadsOk_false {p : Nat} {L : List Ld} {k : Nat} (h : k < L.length) (e : ldOk p L[k] = false) : leadsOk p L = false := by
  refine decide_eq_false fun ha => ?_
  have := ha k h
  simp [e] at this
theorem leadsOk_true {p : Nat} {L : List Ld} (ha : ∀ j (h : j < L.length), ldOk p L[j] = true) : leadsOk p L = true := decide_eq_true ha
theorem hasNode_any (i : Int) (n m l : Nat) (na : Option Addr) (nc : Nat) (xa : Option Addr) (xc : Nat) (ya : Option Addr) (yc : Nat) (w : World) :
    Calls Try.prog 128 #[.agg #[.slice na n nc, .slice xa m xc, .slice ya l yc], .int .i64 i] w fun e w' => e = .returned (.bool (isP i n)) ∧ Below w.heap.size w w' := by
  have KP := fun W => isPeer_any i n W
  have hB := below_alloc w (.cells #[.slice na n nc, .slice xa m xc, .slice ya l yc] 60)
  go_enter Try.func128, Try.ntmps128
  go_wp2_with fail
  refine (KP _).mono ?_
  rintro e w1 ⟨rfl, hw⟩
  subst hw
  clear KP
  go_wp2
  go_ret
  exact ⟨rfl, hB⟩

set_option maxHeartbeats 16000000 in
theorem hasGoodNodes_any (vn vm vl : Value) (N : List Nv) (M : List Mv) (L : List Ld) (w : World) (h : CR w vn vm vl N M L) (hs : CS N M L) :
    Calls Try.prog 100 #[.agg #[vn, vm, vl]] w fun e w' => e = .returned (.bool (nodesOk (N.map Nv.n))) ∧ Below w.heap.size w w' := by
  obtain ⟨⟨na, nc, hcn⟩, ⟨xa, xc, hcm⟩, ya, yc, hcl⟩ := h.shapes
  subst hcn
  subst hcm
  subst hcl
  have hB := below_alloc w (.cells #[.slice na N.length nc, .slice xa M.length xc, .slice ya L.length yc] 60)
  have X := Box.new w #[.slice na N.length nc, .slice xa M.length xc, .slice ya L.length yc] 60
  have HEN := fun k (hk : k < N.length) W (hb : Below w.heap.size w W) => (h.ne k hk).below hb
  have HEM := fun k (hk : k < M.length) W (hb : Below w.heap.size w W) => (h.me k hk).below hb
  obtain ⟨a1, c1, e1, hcN⟩ := h.n
  obtain ⟨a2, c2, e2, hcM⟩ := h.m
  obtain ⟨a3, c3, e3, hcL⟩ := h.l
  simp only [Value.slice.injEq, true_and] at e1 e2 e3
  obtain ⟨rfl, rfl⟩ := e1
  obtain ⟨rfl, rfl⟩ := e2
  obtain ⟨rfl, rfl⟩ := e3
  have hNl := hs.n
  have hMl := hs.m
  have hLl := hs.l
  clear h
  clear hcM hcL HEM
  go_enter Try.func100, Try.ntmps100
  go_wp2
  go_loopw [8] (fun i wr => ∃ k : Nat, k ≤ N.length ∧ i = .int .i64 k ∧ (∀ j (h : j < N.length), j < k → ndOk N.length j N[j].n = true) ∧ Below w.heap.size w wr ∧ Box wr w.heap.size [.slice na N.length nc, .slice xa M.length xc, .slice ya L.length yc]) (fun i _ => N.length - (intOf i).toNat)
  case atStart => exact ⟨0, Nat.zero_le _, rfl, fun j _ h => absurd h (Nat.not_lt_zero j), hB, X⟩
  case round =>
    obtain ⟨k, hk, rfl, hall, hb, X⟩ := hrel
    clear hB
    by_cases hlt : k < N.length
    · obtain ⟨b, off, rfl, hbl, hcell⟩ := hcN (by intro e; simp [e] at hlt)
      obtain ⟨z0, z1, z2, z3, z4, z5, z6, z7, z8⟩ := hcell k hlt
      have hc0 := (hb.cell (p := ⟨b, off + k * 9, none⟩) hbl).trans z0
      have hc1 := (hb.cell (p := ⟨b, off + k * 9 + 1, none⟩) hbl).trans z1
      have hc2 := (hb.cell (p := ⟨b, off + k * 9 + 2, none⟩) hbl).trans z2
      have hc3 := (hb.cell (p := ⟨b, off + k * 9 + 3, none⟩) hbl).trans z3
      have hc4 := (hb.cell (p := ⟨b, off + k * 9 + 4, none⟩) hbl).trans z4
      have hc5 := (hb.cell (p := ⟨b, off + k * 9 + 5, none⟩) hbl).trans z5
      have hc6 := (hb.cell (p := ⟨b, off + k * 9 + 6, none⟩) hbl).trans z6
      have hc7 := (hb.cell (p := ⟨b, off + k * 9 + 7, none⟩) hbl).trans z7
      have hc8 := (hb.cell (p := ⟨b, off + k * 9 + 8, none⟩) hbl).trans z8
      have hE := HEN k hlt _ hb
      have hS := hs.ne k hlt
      have hS2 := hs.ns k hlt
      have HF : Hid (ndOk N.length k N[k].n = false → nodesOk (N.map Nv.n) = false) := fun e => nodesOk_false hlt e
      have HA : Hid (ndOk N.length k N[k].n = true → ∀ j (h : j < N.length), j < k + 1 → ndOk N.length j N[j].n = true) := fun e j h hj => by
        by_cases hjk : j < k
        · exact hall j h hjk
        · obtain rfl : j = k := by omega
          exact e
      clear hcell hcN HEN hs hall z0 z1 z2 z3 z4 z5 z6 z7 z8 
      generalize N[k] = s at *
      obtain ⟨⟨id, pe, te, vo, co, ro, log, vs, mt⟩, la, lc, va, vc, ma, mc⟩ := s
      dsimp only at hc0 hc1 hc2 hc3 hc4 hc5 hc6 hc7 hc8 hE hS hS2 HF HA
      have hz := hb.size
      have hB0 := hb.alloc hz (.cells #[.int .i64 id, .int .i64 pe, .int .i64 te, .int .i64 vo, .slice la log.length lc, .int .i64 co, .int .i64 ro, .slice va vs.length vc, .slice ma mt.length mc] 26)
      have X0 := Box.new wr #[.int .i64 id, .int .i64 pe, .int .i64 te, .int .i64 vo, .slice la log.length lc, .int .i64 co, .int .i64 ro, .slice va vs.length vc, .slice ma mt.length mc] 26
      have hBw := below_alloc wr (.cells #[.int .i64 id, .int .i64 pe, .int .i64 te, .int .i64 vo, .slice la log.length lc, .int .i64 co, .int .i64 ro, .slice va vs.length vc, .slice ma mt.length mc] 26)
      have KG := implGoodN_any id pe te vo co ro _ _ _ log vs mt _ (hE.1.below hBw) (hE.2.1.below hBw) (hE.2.2.below hBw) hS.1 hS.2.1 hS.2.2 hS2
      replace X := X.below hBw
      have HD : Hid (ndOk N.length k ⟨id, pe, te, vo, co, ro, log, vs, mt⟩ = (goodN id pe te vo co ro log vs mt && (decide (id = (k : Int)) && decide (pe = (N.length : Int))))) := rfl
      clear hE hS hS2 hBw
      dsimp only at KG
      generalize goodN id pe te vo co ro log vs mt = ge at *
      go_wp2_with fail
      refine KG.mono ?_
      rintro e w1 ⟨rfl, hb1⟩
      have hB1 := hB0.trans (hb1.mono hB0.size)
      replace X := X.below hb1
      have X1 := X0.below hb1
      obtain ⟨hx0, v0, v1, v2, v3, v4, v5, v6, v7, v8⟩ := X1.e9
      obtain ⟨hxl, x0, x1, x2⟩ := X.c3
      clear KG hB0 X0 hb1 hb
      cases ge with
      | false =>
        have HV : Hid (nodesOk (N.map Nv.n) = false) := HF.out (by rw [HD.out]; rfl)
        clear HF HA HD
        go_wp2
        go_ret
        exact ⟨by rw [HV.out]; try rfl, hB1⟩
      | true =>
        by_cases h1 : id = (k : Int)
        · subst h1
          by_cases h2 : pe = (N.length : Int)
          · subst h2
            have HA2 := HA.out (by rw [HD.out]; simp)
            clear HF HA HD
            go_wp2
            go_roundw
            case rel => exact ⟨k + 1, by omega, by go_num, HA2, hB1, X⟩
            case measure => simp [intOf]; omega
          · have HV : Hid (nodesOk (N.map Nv.n) = false) := HF.out (by rw [HD.out]; simp [h2])
            have h2b : (pe != (N.length : Int)) = true := by simp [h2]
            clear HF HA HD
            go_wp2
            go_ret
            exact ⟨by rw [HV.out]; try rfl, hB1⟩
        · have HV : Hid (nodesOk (N.map Nv.n) = false) := HF.out (by rw [HD.out]; simp [h1])
          have h1b : (id != (k : Int)) = true := by simp [h1]
          clear HF HA HD
          go_wp2
          go_ret
          exact ⟨by rw [HV.out]; try rfl, hB1⟩
    · have hk : k = N.length := by omega
      have HAN : Hid (∀ j (h : j < N.length), ndOk N.length j N[j].n = true) := fun j h => hall j h (by omega)
      clear hall
      have hB1 := hb
      obtain ⟨hxl, x0, x1, x2⟩ := X.c3
      have HV : Hid (nodesOk (N.map Nv.n) = true) := nodesOk_true HAN.out
      clear hcN HEN hs HAN X
      subst hk
      go_wp2
      go_ret
      exact ⟨by rw [HV.out]; try rfl, hB1⟩

set_option maxHeartbeats 16000000 in
theorem hasGoodNet_any (vn vm vl : Value) (N : List Nv) (M : List Mv) (L : List Ld) (w : World) (h : CR w vn vm vl N M L) (hs : CS N M L) :
    Calls Try.prog 101 #[.agg #[vn, vm, vl]] w fun e w' => e = .returned (.bool (netOk N.length (M.map Mv.q))) ∧ Below w.heap.size w w' := by
  obtain ⟨⟨na, nc, hcn⟩, ⟨xa, xc, hcm⟩, ya, yc, hcl⟩ := h.shapes
  subst hcn
  subst hcm
  subst hcl
  have hB := below_alloc w (.cells #[.slice na N.length nc, .slice xa M.length xc, .slice ya L.length yc] 60)
  have X := Box.new w #[.slice na N.length nc, .slice xa M.length xc, .slice ya L.length yc] 60
  have HEN := fun k (hk : k < N.length) W (hb : Below w.heap.size w W) => (h.ne k hk).below hb
  have HEM := fun k (hk : k < M.length) W (hb : Below w.heap.size w W) => (h.me k hk).below hb
  obtain ⟨a1, c1, e1, hcN⟩ := h.n
  obtain ⟨a2, c2, e2, hcM⟩ := h.m
  obtain ⟨a3, c3, e3, hcL⟩ := h.l
  simp only [Value.slice.injEq, true_and] at e1 e2 e3
  obtain ⟨rfl, rfl⟩ := e1
  obtain ⟨rfl, rfl⟩ := e2
  obtain ⟨rfl, rfl⟩ := e3
  have hNl := hs.n
  have hMl := hs.m
  have hLl := hs.l
  clear h
  clear hcN hcL HEN
  go_enter Try.func101, Try.ntmps101
  go_wp2
  go_loopw [8] (fun i wr => ∃ k : Nat, k ≤ M.length ∧ i = .int .i64 k ∧ (∀ j (h : j < M.length), j < k → gMs N.length M[j].q = true) ∧ Below w.heap.size w wr ∧ Box wr w.heap.size [.slice na N.length nc, .slice xa M.length xc, .slice ya L.length yc]) (fun i _ => M.length - (intOf i).toNat)
  case atStart => exact ⟨0, Nat.zero_le _, rfl, fun j _ h => absurd h (Nat.not_lt_zero j), hB, X⟩
  case round =>
    obtain ⟨k, hk, rfl, hall, hb, X⟩ := hrel
    clear hB
    by_cases hlt : k < M.length
    · obtain ⟨b, off, rfl, hbl, hcell⟩ := hcM (by intro e; simp [e] at hlt)
      obtain ⟨z0, z1, z2, z3, z4, z5, z6, z7, z8⟩ := hcell k hlt
      have hc0 := (hb.cell (p := ⟨b, off + k * 9, none⟩) hbl).trans z0
      have hc1 := (hb.cell (p := ⟨b, off + k * 9 + 1, none⟩) hbl).trans z1
      have hc2 := (hb.cell (p := ⟨b, off + k * 9 + 2, none⟩) hbl).trans z2
      have hc3 := (hb.cell (p := ⟨b, off + k * 9 + 3, none⟩) hbl).trans z3
      have hc4 := (hb.cell (p := ⟨b, off + k * 9 + 4, none⟩) hbl).trans z4
      have hc5 := (hb.cell (p := ⟨b, off + k * 9 + 5, none⟩) hbl).trans z5
      have hc6 := (hb.cell (p := ⟨b, off + k * 9 + 6, none⟩) hbl).trans z6
      have hc7 := (hb.cell (p := ⟨b, off + k * 9 + 7, none⟩) hbl).trans z7
      have hc8 := (hb.cell (p := ⟨b, off + k * 9 + 8, none⟩) hbl).trans z8
      have hE := HEM k hlt _ hb
      have hS := hs.me k hlt
      have hS2 := hs.ms k hlt
      have HF : Hid (gMs N.length M[k].q = false → netOk N.length (M.map Mv.q) = false) := fun e => netOk_false hlt e
      have HA : Hid (gMs N.length M[k].q = true → ∀ j (h : j < M.length), j < k + 1 → gMs N.length M[j].q = true) := fun e j h hj => by
        by_cases hjk : j < k
        · exact hall j h hjk
        · obtain rfl : j = k := by omega
          exact e
      clear hcell hcM HEM hs hall z0 z1 z2 z3 z4 z5 z6 z7 z8 
      generalize M[k] = s at *
      obtain ⟨⟨ki, fr, dst, te, ix, be, co, ye, es⟩, ea, ec⟩ := s
      dsimp only at hc0 hc1 hc2 hc3 hc4 hc5 hc6 hc7 hc8 hE hS hS2 HF HA
      have hz := hb.size
      have hB0 := hb.alloc hz (.cells #[.int .i64 ki, .int .i64 fr, .int .i64 dst, .int .i64 te, .int .i64 ix, .int .i64 be, .slice ea es.length ec, .int .i64 co, .bool ye] 38)
      have X0 := Box.new wr #[.int .i64 ki, .int .i64 fr, .int .i64 dst, .int .i64 te, .int .i64 ix, .int .i64 be, .slice ea es.length ec, .int .i64 co, .bool ye] 38
      have hBw := below_alloc wr (.cells #[.int .i64 ki, .int .i64 fr, .int .i64 dst, .int .i64 te, .int .i64 ix, .int .i64 be, .slice ea es.length ec, .int .i64 co, .bool ye] 38)
      have KG := implGoodM_any N.length ki fr dst te ix be co ye _ es _ (ER.below hE hBw) hS hS2
      replace X := X.below hBw
      have HD : Hid (gMs N.length ⟨ki, fr, dst, te, ix, be, co, ye, es⟩ = goodM N.length ki fr dst te ix be co ye es) := rfl
      clear hE hS hS2 hBw
      dsimp only at KG
      generalize goodM N.length ki fr dst te ix be co ye es = ge at *
      obtain ⟨hxl, x0, x1, x2⟩ := X.c3
      go_wp2_with fail
      refine KG.mono ?_
      rintro e w1 ⟨rfl, hb1⟩
      have hB1 := hB0.trans (hb1.mono hB0.size)
      replace X := X.below hb1
      clear KG hB0 X0 hb1 hb hxl x0 x1 x2
      cases ge with
      | false =>
        have HV : Hid (netOk N.length (M.map Mv.q) = false) := HF.out HD.out
        clear HF HA HD
        go_wp2
        go_ret
        exact ⟨by rw [HV.out]; try rfl, hB1⟩
      | true =>
        have HA2 := HA.out HD.out
        clear HF HA HD
        go_wp2
        go_roundw
        case rel => exact ⟨k + 1, by omega, by go_num, HA2, hB1, X⟩
        case measure => simp [intOf]; omega
    · have hk : k = M.length := by omega
      have HAM : Hid (∀ j (h : j < M.length), gMs N.length M[j].q = true) := fun j h => hall j h (by omega)
      clear hall
      have hB1 := hb
      obtain ⟨hxl, x0, x1, x2⟩ := X.c3
      have HV : Hid (netOk N.length (M.map Mv.q) = true) := netOk_true HAM.out
      clear hcM HEM hs HAM X
      subst hk
      go_wp2
      go_ret
      exact ⟨by rw [HV.out]; try rfl, hB1⟩

set_option maxHeartbeats 16000000 in
theorem hasGoodLeads_any (vn vm vl : Value) (N : List Nv) (M : List Mv) (L : List Ld) (w : World) (h : CR w vn vm vl N M L) (hs : CS N M L) :
    Calls Try.prog 102 #[.agg #[vn, vm, vl]] w fun e w' => e = .returned (.bool (leadsOk N.length L)) ∧ Below w.heap.size w w' := by
  obtain ⟨⟨na, nc, hcn⟩, ⟨xa, xc, hcm⟩, ya, yc, hcl⟩ := h.shapes
  subst hcn
  subst hcm
  subst hcl
  have hB := below_alloc w (.cells #[.slice na N.length nc, .slice xa M.length xc, .slice ya L.length yc] 60)
  have X := Box.new w #[.slice na N.length nc, .slice xa M.length xc, .slice ya L.length yc] 60
  have HEN := fun k (hk : k < N.length) W (hb : Below w.heap.size w W) => (h.ne k hk).below hb
  have HEM := fun k (hk : k < M.length) W (hb : Below w.heap.size w W) => (h.me k hk).below hb
  obtain ⟨a1, c1, e1, hcN⟩ := h.n
  obtain ⟨a2, c2, e2, hcM⟩ := h.m
  obtain ⟨a3, c3, e3, hcL⟩ := h.l
  simp only [Value.slice.injEq, true_and] at e1 e2 e3
  obtain ⟨rfl, rfl⟩ := e1
  obtain ⟨rfl, rfl⟩ := e2
  obtain ⟨rfl, rfl⟩ := e3
  have hNl := hs.n
  have hMl := hs.m
  have hLl := hs.l
  clear h
  clear hcN hcM HEN HEM
  go_enter Try.func102, Try.ntmps102
  go_wp2
  go_loopw [8] (fun i wr => ∃ k : Nat, k ≤ L.length ∧ i = .int .i64 k ∧ (∀ j (h : j < L.length), j < k → ldOk N.length L[j] = true) ∧ Below w.heap.size w wr ∧ Box wr w.heap.size [.slice na N.length nc, .slice xa M.length xc, .slice ya L.length yc]) (fun i _ => L.length - (intOf i).toNat)
  case atStart => exact ⟨0, Nat.zero_le _, rfl, fun j _ h => absurd h (Nat.not_lt_zero j), hB, X⟩
  case round =>
    obtain ⟨k, hk, rfl, hall, hb, X⟩ := hrel
    clear hB
    by_cases hlt : k < L.length
    · obtain ⟨b, off, rfl, hbl, hcell⟩ := hcL (by intro e; simp [e] at hlt)
      obtain ⟨z0, z1⟩ := hcell k hlt
      have hc0 := (hb.cell (p := ⟨b, off + k * 2, none⟩) hbl).trans z0
      have hc1 := (hb.cell (p := ⟨b, off + k * 2 + 1, none⟩) hbl).trans z1
      have HF : Hid (ldOk N.length L[k] = false → leadsOk N.length L = false) := fun e => leadsOk_false hlt e
      have HA : Hid (ldOk N.length L[k] = true → ∀ j (h : j < L.length), j < k + 1 → ldOk N.length L[j] = true) := fun e j h hj => by
        by_cases hjk : j < k
        · exact hall j h hjk
        · obtain rfl : j = k := by omega
          exact e
      clear hcell hcL hall z0 z1 hs 
      generalize L[k] = s at *
      obtain ⟨t, n⟩ := s
      dsimp only at hc0 hc1 HF HA
      have hz := hb.size
      have hB0 := hb.alloc hz (.cells #[.int .i64 t, .int .i64 n] 116)
      have X0 := Box.new wr #[.int .i64 t, .int .i64 n] 116
      replace X := X.below (below_alloc wr (.cells #[.int .i64 t, .int .i64 n] 116))
      obtain ⟨hxl, x0, x1, x2⟩ := X.c3
      have KP := fun W => hasNode_any n N.length M.length L.length na nc xa xc (some ⟨b, off, none⟩) yc W
      have HD : Hid (ldOk N.length ⟨t, n⟩ = ((decide (1 ≤ t) && decide (t ≤ 1000)) && isP n N.length)) := rfl
      generalize isP n (N.length : Int) = ip at *
      by_cases h1 : t < 1
      · have HV : Hid (leadsOk N.length L = false) := HF.out (by rw [HD.out, decide_eq_false (show ¬ 1 ≤ t from by omega)]; rfl)
        have hB1 := hB0
        clear HF HA HD KP
        go_wp2
        go_ret
        exact ⟨by rw [HV.out]; try rfl, hB1⟩
      by_cases h2 : 1000 < t
      · have HV : Hid (leadsOk N.length L = false) := HF.out (by rw [HD.out, decide_eq_false (show ¬ t ≤ 1000 from by omega)]; simp)
        have hB1 := hB0
        clear HF HA HD KP
        go_wp2
        go_ret
        exact ⟨by rw [HV.out]; try rfl, hB1⟩
      go_wp2_with fail
      refine (KP _).mono ?_
      rintro e w1 ⟨rfl, hb1⟩
      have hB1 := hB0.trans (hb1.mono hB0.size)
      replace X := X.below hb1
      clear KP hB0 X0 hb1 hb hxl x0 x1 x2
      cases ip with
      | false =>
        have HV : Hid (leadsOk N.length L = false) := HF.out (by rw [HD.out]; simp)
        clear HF HA HD
        go_wp2
        go_ret
        exact ⟨by rw [HV.out]; try rfl, hB1⟩
      | true =>
        have HA2 := HA.out (by rw [HD.out, decide_eq_true (show 1 ≤ t from by omega), decide_eq_true (show t ≤ 1000 from by omega)]; rfl)
        clear HF HA HD
        go_wp2
        go_roundw
        case rel => exact ⟨k + 1, by omega, by go_num, HA2, hB1, X⟩
        case measure => simp [intOf]; omega
    · have hk : k = L.length := by omega
      have HAL : Hid (∀ j (h : j < L.length), ldOk N.length L[j] = true) := fun j h => hall j h (by omega)
      clear hall
      have hB1 := hb
      obtain ⟨hxl, x0, x1, x2⟩ := X.c3
      have HV : Hid (leadsOk N.length L = true) := leadsOk_true HAL.out
      clear hcL hs HAL X
      subst hk
      go_wp2
      go_ret
      exact ⟨by rw [HV.out]; try rfl, hB1⟩

set_option maxHeartbeats 16000000 in
theorem implGoodC_any (vn vm vl : Value) (N : List Nv) (M : List Mv) (L : List Ld) (w : World) (h : CR w vn vm vl N M L) (hs : CS N M L) :
    Calls Try.prog 41 #[.agg #[vn, vm, vl]] w fun e w' => e = .returned (.bool (goodC (N.map Nv.n) (M.map Mv.q) L)) ∧ Below w.heap.size w w' := by
  have K1 := fun W (hb : Below w.heap.size w W) => hasGoodNodes_any vn vm vl N M L W (h.below hb) hs
  have K2 := fun W (hb : Below w.heap.size w W) => hasGoodNet_any vn vm vl N M L W (h.below hb) hs
  have K3 := fun W (hb : Below w.heap.size w W) => hasGoodLeads_any vn vm vl N M L W (h.below hb) hs
  have HG : Hid (goodC (N.map Nv.n) (M.map Mv.q) L = ((decide (1 ≤ N.length) && decide (N.length ≤ 7)) && (nodesOk (N.map Nv.n) && (decide (M.length ≤ 60) && (netOk N.length (M.map Mv.q) && (decide (L.length ≤ 1000) && leadsOk N.length L)))))) := by show _ = _; unfold goodC; simp only [List.length_map]
  rw [HG.out]
  clear HG
  obtain ⟨⟨na, nc, hcn⟩, ⟨xa, xc, hcm⟩, ya, yc, hcl⟩ := h.shapes
  subst hcn
  subst hcm
  subst hcl
  have hB := below_alloc w (.cells #[.slice na N.length nc, .slice xa M.length xc, .slice ya L.length yc] 60)
  have X := Box.new w #[.slice na N.length nc, .slice xa M.length xc, .slice ya L.length yc] 60
  clear h hs
  generalize nodesOk (N.map Nv.n) = b1 at *
  generalize netOk N.length (M.map Mv.q) = b2 at *
  generalize leadsOk N.length L = b3 at *
  generalize N.length = n at *
  generalize M.length = m at *
  generalize L.length = l at *
  obtain ⟨G, HG⟩ : ∃ G, Hid ((decide (1 ≤ n) && decide (n ≤ 7) && (b1 && (decide (m ≤ 60) && (b2 && (decide (l ≤ 1000) && b3))))) = G) := ⟨(decide (1 ≤ n) && decide (n ≤ 7) && (b1 && (decide (m ≤ 60) && (b2 && (decide (l ≤ 1000) && b3))))), rfl⟩
  rw [HG.out]
  by_cases h1 : 1 ≤ n
  rotate_left
  · have HV : Hid (false = G) := by have := HG.out; simp [h1] at this; rw [← this]; try rfl
    have h1b : ¬ (1 : Int) ≤ (n : Int) := by omega
    clear K1 K2 K3
    go_enter Try.func41, Try.ntmps41
    go_wp2
    go_ret
    exact ⟨by rw [← HV.out]; try rfl, hB⟩
  have h1b : (1 : Int) ≤ (n : Int) := by omega
  by_cases h2 : n ≤ 7
  rotate_left
  · have HV : Hid (false = G) := by have := HG.out; simp [h2] at this; rw [← this]; try rfl
    have h2b : ¬ (n : Int) ≤ 7 := by omega
    clear K1 K2 K3
    go_enter Try.func41, Try.ntmps41
    go_wp2
    go_ret
    exact ⟨by rw [← HV.out]; try rfl, hB⟩
  have h2b : (n : Int) ≤ 7 := by omega
  go_enter Try.func41, Try.ntmps41
  go_wp2_with fail
  refine (K1 _ hB).mono ?_
  rintro e w1 ⟨rfl, hb⟩
  replace hB := below_then hB hb
  replace X := X.below hb
  clear hb K1
  obtain ⟨hxl, x0, x1, x2⟩ := X.c3
  cases b1 with
  | false =>
    have HV : Hid (false = G) := by have := HG.out; simp at this; rw [← this]; try rfl
    clear K2 K3
    go_wp2
    go_ret
    exact ⟨by rw [← HV.out]; try rfl, hB⟩
  | true =>
  by_cases h3 : m ≤ 60
  rotate_left
  · have HV : Hid (false = G) := by have := HG.out; simp [h3] at this; rw [← this]; try rfl
    have h3b : ¬ (m : Int) ≤ 60 := by omega
    clear K2 K3
    go_wp2
    go_ret
    exact ⟨by rw [← HV.out]; try rfl, hB⟩
  have h3b : (m : Int) ≤ 60 := by omega
  go_wp2_with fail
  refine (K2 _ hB).mono ?_
  rintro e w2 ⟨rfl, hb⟩
  replace hB := below_then hB hb
  replace X := X.below hb
  clear hb K2 hxl x0 x1 x2
  obtain ⟨hxl, x0, x1, x2⟩ := X.c3
  cases b2 with
  | false =>
    have HV : Hid (false = G) := by have := HG.out; simp at this; rw [← this]; try rfl
    clear K3
    go_wp2
    go_ret
    exact ⟨by rw [← HV.out]; try rfl, hB⟩
  | true =>
  by_cases h4 : l ≤ 1000
  rotate_left
  · have HV : Hid (false = G) := by have := HG.out; simp [h4] at this; rw [← this]; try rfl
    have h4b : ¬ (l : Int) ≤ 1000 := by omega
    clear K3
    go_wp2
    go_ret
    exact ⟨by rw [← HV.out]; try rfl, hB⟩
  have h4b : (l : Int) ≤ 1000 := by omega
  go_wp2_with fail
  refine (K3 _ hB).mono ?_
  rintro e w3 ⟨rfl, hb⟩
  replace hB := below_then hB hb
  clear hb K3 hxl x0 x1 x2 X
  go_wp2
  go_ret
  have HV : Hid (b3 = G) := by have := HG.out; simp [h1, h2, h3, h4] at this; exact this
  exact ⟨by rw [← HV.out]; try rfl, hB⟩
end Go.Proofs.Ytapfhhmimkkhnaa
