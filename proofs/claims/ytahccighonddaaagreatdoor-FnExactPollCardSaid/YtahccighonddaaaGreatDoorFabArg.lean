import Derived.Test.YtahccighonddaaaGreatDoorSpecHear2
import Derived.Test.YtahccighonddaaaGreatDoorRingArg
import Derived.Test.YtahccighonddaaaGreatDoorLawTxn1
import Derived.Deep.Slices
namespace Go.Proofs.YtahccighonddaaaGreatDoor
open Go.ChangeShapes Go.WideShapes Go.ChangeAt Go.RowKit Go.Deep
open Go.Joins (open_agg4)
instance : Inhabited RD := ⟨⟨0,0,none,0,0,none,0,0,[],[]⟩⟩
instance : Inhabited TD := ⟨⟨0,0,0,0,none,0,0,none,0,0,[],[]⟩⟩
theorem wf_in {a : Int} (h : (Lit.int .i64 a).wf = true) : -9223372036854775808 ≤ a ∧ a ≤ 9223372036854775807 := by
  simp [Lit.wf,IntKind.min,IntKind.max,IntKind.bits,IntKind.signed] at h
  omega
set_option maxRecDepth 100000 in
theorem ring_cells {H : Type} {enc : TypeId × Value → H} {w : World} {n : Nat} {cs : List Value} {x : DataW H × List MemPlace} (h : DataW.trod enc Tryz.prog w 0 (fun _ => true) true n 107 cs = some x) :
    ∃ r : RD,cs = [.int .i64 r.cap,.int .i64 r.first,.slice r.ra r.rl r.rc,.slice r.ca r.cl r.cc] ∧ r.lin w := by
  obtain ⟨xs,m,_,_,hlen,hxl,hg⟩ := DataW.trod_struct Tryz.underlying107 h
  rw [cellsRing] at hlen
  have g0 := hg 0 _ rfl
  have g1 := hg 1 _ rfl
  have g2 := hg 2 _ rfl
  have g3 := hg 3 _ rfl
  match xs,hxl,cs,hlen with
  | [y0,y1,y2,y3],_,[c0,c1,c2,c3],_ =>
    have e64 : Tryz.prog.cellsOf 2 = 1 := cellsInt
    have eS : Tryz.prog.cellsOf 43 = 1 := by kernel_rfl
    have eC : Tryz.prog.cellsOf 105 = 1 := by kernel_rfl
    simp [e64,eS,eC] at g0 g1 g2 g3
    obtain ⟨k0,e0,_,_⟩ := DataW.trod_int Tryz.underlying2 g0
    obtain ⟨k1,e1,_,_⟩ := DataW.trod_int Tryz.underlying2 g1
    obtain ⟨ra,rl,rc,recs,e2,hr,hrl,hs⟩ := strs_of_trod g2
    obtain ⟨ca,cl,cc,curs,e3,hc,hcl⟩ := curs_of_trod g3
    simp at e0 e1
    subst e0 e1 e2 e3
    exact ⟨⟨k0,k1,ra,rl,rc,ca,cl,cc,recs,curs⟩,rfl,hr,hc,hs,hrl,hcl⟩
set_option maxRecDepth 100000 in
theorem txn_cells {H : Type} {enc : TypeId × Value → H} {w : World} {n : Nat} {cs : List Value} {x : DataW H × List MemPlace} (h : DataW.trod enc Tryz.prog w 0 (fun _ => true) true n 109 cs = some x) :
    ∃ t : TD,cs = [.int .i64 t.p,.int .i64 t.e,.int .i64 t.s,.int .i64 t.u,.slice t.ra t.rl t.rc,.slice t.la t.ll t.lc] ∧ t.lin w := by
  obtain ⟨xs,m,_,_,hlen,hxl,hg⟩ := DataW.trod_struct Tryz.underlying109 h
  rw [cellsTxn] at hlen
  have g0 := hg 0 _ rfl
  have g1 := hg 1 _ rfl
  have g2 := hg 2 _ rfl
  have g3 := hg 3 _ rfl
  have g4 := hg 4 _ rfl
  have g5 := hg 5 _ rfl
  match xs,hxl,cs,hlen with
  | [y0,y1,y2,y3,y4,y5],_,[c0,c1,c2,c3,c4,c5],_ =>
    have e64 : Tryz.prog.cellsOf 2 = 1 := cellsInt
    have eS : Tryz.prog.cellsOf 23 = 1 := by kernel_rfl
    simp [e64,eS] at g0 g1 g2 g3 g4 g5
    obtain ⟨k0,e0,_,hwf⟩ := DataW.trod_int Tryz.underlying2 g0
    obtain ⟨k1,e1,_,_⟩ := DataW.trod_int Tryz.underlying2 g1
    obtain ⟨k2,e2,_,_⟩ := DataW.trod_int Tryz.underlying2 g2
    obtain ⟨k3,e3,_,_⟩ := DataW.trod_int Tryz.underlying2 g3
    obtain ⟨ra,rl,rc,rs,e4,hr,hrl⟩ := nums_of_trod g4
    obtain ⟨la,ll,lc,ls,e5,hl,hll⟩ := nums_of_trod g5
    simp at e0 e1 e2 e3
    subst e0 e1 e2 e3 e4 e5
    exact ⟨⟨k0,k1,k2,k3,ra,rl,rc,la,ll,lc,rs,ls⟩,rfl,⟨hr,hl,hrl,hll⟩,wf_in hwf⟩
theorem rngs_of_trod {H : Type} {enc : TypeId × Value → H} {w : World} {n : Nat} {x : Value} {y : DataW H × List MemPlace} (h : DataW.trod enc Tryz.prog w 0 (fun _ => true) true n 22 [x] = some y) :
    ∃ a len cap l,x = .slice a len cap ∧ LRngs w a len l ∧ len ≤ maxLen := by
  rcases open_slice Tryz.underlying22 h with ⟨e,_⟩ | ⟨a,len,cap,m,k,D,Pl,e,_,hl,hm,hmm,_,hcell⟩
  · exact ⟨none,0,0,[],by simpa using e,⟨rfl,fun i hi => by simp at hi⟩,by unfold maxLen; omega⟩
  · simp at hmm
    rw [cellsRing] at hcell
    obtain ⟨q,hq⟩ := choose_lt (α := RD) (p := fun i r => w.cells? 0 (a.add (i * 4)) 4 = some [.int .i64 r.cap,.int .i64 r.first,.slice r.ra r.rl r.rc,.slice r.ca r.cl r.cc] ∧ r.lin w) (n := len) (fun i hi => by
      obtain ⟨cs',h1,h2⟩ := hcell i (by omega)
      obtain ⟨r,e1,e2⟩ := ring_cells h2
      rw [e1] at h1
      exact ⟨r,h1,e2⟩)
    refine ⟨some a,len,cap,(List.range len).map q,by simpa using e,⟨by simp,fun i hi => ?_⟩,Nat.le_trans hl hm⟩
    have hi' : i < len := by simpa using hi
    obtain ⟨b,off,spot⟩ := a
    have hspot : spot = none := by
      have h0 := (World.cells?_some (hq 0 (by omega)).1).2.2 0 (by omega)
      simpa [Addr.add] using World.cell?_spot h0
    subst hspot
    obtain ⟨_,_,hc⟩ := World.cells?_some (hq i hi').1
    have c0 := hc 0 (by omega)
    have c1 := hc 1 (by omega)
    have c2 := hc 2 (by omega)
    have c3 := hc 3 (by omega)
    rw [add_add,Addr.add_lit] at c0 c1 c2 c3
    have eq : ((List.range len).map q)[i] = q i := by simp
    rw [eq]
    exact ⟨b,off,rfl,by simpa using c0,by simpa [Nat.add_assoc] using c1,by simpa [Nat.add_assoc] using c2,by simpa [Nat.add_assoc] using c3,(hq i hi').2⟩
theorem txs_of_trod {H : Type} {enc : TypeId × Value → H} {w : World} {n : Nat} {x : Value} {y : DataW H × List MemPlace} (h : DataW.trod enc Tryz.prog w 0 (fun _ => true) true n 24 [x] = some y) :
    ∃ a len cap l,x = .slice a len cap ∧ LTxs w a len l ∧ len ≤ maxLen := by
  rcases open_slice Tryz.underlying24 h with ⟨e,_⟩ | ⟨a,len,cap,m,k,D,Pl,e,_,hl,hm,hmm,_,hcell⟩
  · exact ⟨none,0,0,[],by simpa using e,⟨rfl,fun i hi => by simp at hi⟩,by unfold maxLen; omega⟩
  · simp at hmm
    rw [cellsTxn] at hcell
    obtain ⟨q,hq⟩ := choose_lt (α := TD) (p := fun i t => w.cells? 0 (a.add (i * 6)) 6 = some [.int .i64 t.p,.int .i64 t.e,.int .i64 t.s,.int .i64 t.u,.slice t.ra t.rl t.rc,.slice t.la t.ll t.lc] ∧ t.lin w) (n := len) (fun i hi => by
      obtain ⟨cs',h1,h2⟩ := hcell i (by omega)
      obtain ⟨r,e1,e2⟩ := txn_cells h2
      rw [e1] at h1
      exact ⟨r,h1,e2⟩)
    refine ⟨some a,len,cap,(List.range len).map q,by simpa using e,⟨by simp,fun i hi => ?_⟩,Nat.le_trans hl hm⟩
    have hi' : i < len := by simpa using hi
    obtain ⟨b,off,spot⟩ := a
    have hspot : spot = none := by
      have h0 := (World.cells?_some (hq 0 (by omega)).1).2.2 0 (by omega)
      simpa [Addr.add] using World.cell?_spot h0
    subst hspot
    obtain ⟨_,_,hc⟩ := World.cells?_some (hq i hi').1
    have c0 := hc 0 (by omega)
    have c1 := hc 1 (by omega)
    have c2 := hc 2 (by omega)
    have c3 := hc 3 (by omega)
    have c4 := hc 4 (by omega)
    have c5 := hc 5 (by omega)
    rw [add_add,Addr.add_lit] at c0 c1 c2 c3 c4 c5
    have eq : ((List.range len).map q)[i] = q i := by simp
    rw [eq]
    exact ⟨b,off,rfl,by simpa using c0,by simpa [Nat.add_assoc] using c1,by simpa [Nat.add_assoc] using c2,by simpa [Nat.add_assoc] using c3,by simpa [Nat.add_assoc] using c4,by simpa [Nat.add_assoc] using c5,(hq i hi').2⟩
theorem cellsFab : Tryz.prog.cellsOf 26 = 4 := by kernel_rfl
set_option maxRecDepth 100000 in
theorem fab_arg {H : Type} {enc : TypeId × Value → H} {w : World} {r : Reach} {b0 : Nat} {v : Value} {d : DataW H} {p : List MemPlace} (hv : Value.okWide Tryz.prog w r b0 26 v) (h : DataW.Trod enc Tryz.prog w 0 (fun _ => true) true 26 v d p) :
    ∃ ra rl rc ea el ec ta tl tc now rs es ts,v = fabVal ra rl rc ea el ec ta tl tc now ∧ LFIn w ra rl ea el ta tl rs es ts := by
  obtain ⟨x0,x1,x2,x3,y0,y1,y2,y3,m,rfl,_,_,g0,g1,g2,g3⟩ := open_agg4 Tryz.underlying26 (by kernel_rfl) cellsFab hv h
  obtain ⟨ra,rl,rc,rs,e0,hr,hrl⟩ := rngs_of_trod g0
  obtain ⟨ea,el,ec,es,e1,he,hel⟩ := nums_of_trod g1
  obtain ⟨ta,tl,tc,ts,e2,ht,htl⟩ := txs_of_trod g2
  obtain ⟨k3,e3,_,_⟩ := DataW.trod_int Tryz.underlying2 g3
  simp at e3
  subst e0 e1 e2 e3
  exact ⟨ra,rl,rc,ea,el,ec,ta,tl,tc,k3,rs,es,ts,rfl,hr,he,ht,hrl,hel,htl⟩
end Go.Proofs.YtahccighonddaaaGreatDoor
