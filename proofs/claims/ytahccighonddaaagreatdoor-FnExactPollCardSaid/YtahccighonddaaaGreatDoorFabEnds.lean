import Derived.Test.YtahccighonddaaaGreatDoorRingCopy
import Derived.Test.YtahccighonddaaaGreatDoorRingAsk
import Derived.Test.YtahccighonddaaaGreatDoorRingWork6
import Derived.Test.YtahccighonddaaaGreatDoorTxnImpl2
import Derived.Test.YtahccighonddaaaGreatDoorLawRingAsk
import Derived.Deep.DrawnRows
import Derived.Test.YtahccighonddaaaGreatDoorRingNew
namespace Go.Proofs.YtahccighonddaaaGreatDoor
open Go.RowKit
variable {cap first : Int} {ra ca : Option Addr} {rl rc cl cc : Nat}
structure RO where
  cap : Int
  first : Int
  recs : List ByteArray
  curs : List (Int × Int)
  k : Int
  t : Int
  d : ByteArray
  c : Int
def RO.ill (c : Int) : RO := ⟨0,0,[],[],0,0,⟨#[]⟩,c⟩
def RO.ring (cap first : Int) (recs : List ByteArray) (curs : List (Int × Int)) : RO := ⟨cap,first,recs,curs,0,0,⟨#[]⟩,0⟩
def Answers (w w' : World) (e : Ending) (r : RO) : Prop :=
  ∃ a q b p,e = .returned (ringOutV r.cap r.first a r.recs.length q b r.curs.length p r.k r.t r.d r.c) ∧ OwnRing w' w.heap.size a r.recs.length q b r.curs.length p (r.recs.map Value.string) (curCells r.curs) ∧ Below w.heap.size w w'
abbrev outObj0 : Obj := .cells #[.int .i64 0,.int .i64 0,.slice none 0 0,.slice none 0 0,.int .i64 0,.int .i64 0,.string ⟨#[]⟩,.int .i64 0] 67 (0,0)
abbrev set8 (w : World) (b : Nat) (v0 v1 v2 v3 v4 v5 v6 v7 : Value) : World := (((((((w.setCell ⟨b,0,none⟩ v0).setCell ⟨b,1,none⟩ v1).setCell ⟨b,2,none⟩ v2).setCell ⟨b,3,none⟩ v3).setCell ⟨b,4,none⟩ v4).setCell ⟨b,5,none⟩ v5).setCell ⟨b,6,none⟩ v6).setCell ⟨b,7,none⟩ v7
theorem own_set8 {w : World} {base e size n : Nat} {v : Value} {xs : List Value} (h : w.ownsRow base e size v n xs) (b : Nat) (hb : b < base) (v0 v1 v2 v3 v4 v5 v6 v7 : Value) : (set8 w b v0 v1 v2 v3 v4 v5 v6 v7).ownsRow base e size v n xs :=
  ownsRow_setCell_below (ownsRow_setCell_below (ownsRow_setCell_below (ownsRow_setCell_below (ownsRow_setCell_below (ownsRow_setCell_below (ownsRow_setCell_below (ownsRow_setCell_below h (a := ⟨b,0,none⟩) hb _) (a := ⟨b,1,none⟩) hb _) (a := ⟨b,2,none⟩) hb _) (a := ⟨b,3,none⟩) hb _) (a := ⟨b,4,none⟩) hb _) (a := ⟨b,5,none⟩) hb _) (a := ⟨b,6,none⟩) hb _) (a := ⟨b,7,none⟩) hb _
theorem ans_ill {w w1 : World} (c : Int) (hB : Below w.heap.size w w1) (b : Nat) (hb : w.heap.size ≤ b) (v0 v1 v2 v3 v4 v5 v6 v7 : Value) : Answers w (set8 w1 b v0 v1 v2 v3 v4 v5 v6 v7) (.returned (ringIll c)) (RO.ill c) :=
  ⟨none,0,none,0,rfl,⟨World.ownsRow_nil _ _ _ _,World.ownsRow_nil _ _ _ _⟩,below_set8 hB b hb _ _ _ _ _ _ _ _⟩
theorem ans_ring {w w1 : World} {base : Nat} (r : RO) {a : Option Addr} {q : Nat} {c : Option Addr} {p : Nat} (ho : OwnRing w1 base a r.recs.length q c r.curs.length p (r.recs.map Value.string) (curCells r.curs)) (hB : Below w.heap.size w w1) (b : Nat) (hb : w.heap.size ≤ b) (hbb : b < base) (v0 v1 v2 v3 v4 v5 v6 v7 : Value) :
    Answers w (set8 w1 b v0 v1 v2 v3 v4 v5 v6 v7) (.returned (ringOutV r.cap r.first a r.recs.length q c r.curs.length p r.k r.t r.d r.c)) r :=
  ⟨a,q,c,p,rfl,⟨(own_set8 ho.1 b hbb _ _ _ _ _ _ _ _).mono (by omega),(own_set8 ho.2 b hbb _ _ _ _ _ _ _ _).mono (by omega)⟩,below_set8 hB b hb _ _ _ _ _ _ _ _⟩
structure RFit (w : World) (ra : Option Addr) (rl rc : Nat) (ca : Option Addr) (cl cc : Nat) (recs : List ByteArray) (curs : List (Int × Int)) : Prop where
  str : StrIn w ra rl rc recs
  cur : CurIn w ca cl cc curs
  sz : ∀ s ∈ recs,s.size ≤ 1048576
  rle : rl ≤ 1048576
  cle : cl ≤ 1048576
  rcm : rc ≤ maxLen
  ccm : cc ≤ maxLen
theorem StrIn.below {w w' : World} {a : Option Addr} {n c : Nat} {l : List ByteArray} (h : StrIn w a n c l) (hb : Below w.heap.size w w') : StrIn w' a n c l := ⟨strs_below h.strs hb,fun x e => Nat.lt_of_lt_of_le (h.lt x e) hb.size,h.nil,h.cap,h.off⟩
theorem CurIn.below {w w' : World} {a : Option Addr} {n c : Nat} {l : List (Int × Int)} (h : CurIn w a n c l) (hb : Below w.heap.size w w') : CurIn w' a n c l := ⟨curs_below h.curs hb,fun x e => Nat.lt_of_lt_of_le (h.lt x e) hb.size,h.nil,h.cap,h.off⟩
theorem RFit.below {w w' : World} {recs : List ByteArray} {curs : List (Int × Int)} (h : RFit w ra rl rc ca cl cc recs curs) (hb : Below w.heap.size w w') : RFit w' ra rl rc ca cl cc recs curs := ⟨h.str.below hb,h.cur.below hb,h.sz,h.rle,h.cle,h.rcm,h.ccm⟩
theorem RFit.rin {w : World} {recs : List ByteArray} {curs : List (Int × Int)} (h : RFit w ra rl rc ca cl cc recs curs) : RIn w ra rl rc ca cl cc recs curs := ⟨h.str.strs,h.cur.curs,h.str.lt,h.cur.lt,h.str.nil,h.cur.nil,h.sz,h.rle,h.cle⟩
set_option maxHeartbeats 1000000 in
theorem impl_withCursors (b : Nat) (d st l : Int) (a : Option Addr) (n c : Nat) (w : World) (hw : Work w b cap first ra rl rc ca cl cc d st l) :
    Calls Tryz.prog 113 #[.pointer (some ⟨b,0,none⟩),.slice a n c] w fun e w' => e = .returned (ringV cap first ra rl rc a n c) ∧ Below w.heap.size w w' := by
  obtain ⟨c0,c1,c2,c3,c4,c5,c6,c7⟩ := work_cells hw
  have hlt := hw.lt
  go_enter Tryz.func113,Tryz.ntmps113
  go_wp2
  exact bodyPost_ret (v := ringV cap first ra rl rc a n c) (by simp [results,Tryz.results113,go_sem]) rfl ⟨rfl,((Below.refl _ _).alloc (Nat.le_refl _) _).alloc (by simp) _⟩
end Go.Proofs.YtahccighonddaaaGreatDoor
namespace Go.Proofs.YtahccighonddaaaGreatDoor
open Go.RowKit
structure RD where
  cap : Int
  first : Int
  ra : Option Addr
  rl : Nat
  rc : Nat
  ca : Option Addr
  cl : Nat
  cc : Nat
  recs : List ByteArray
  curs : List (Int × Int)
structure TD where
  p : Int
  e : Int
  s : Int
  u : Int
  ra : Option Addr
  rl : Nat
  rc : Nat
  la : Option Addr
  ll : Nat
  lc : Nat
  rs : List Int
  ls : List Int
abbrev RD.v (r : RD) : Value := ringV r.cap r.first r.ra r.rl r.rc r.ca r.cl r.cc
abbrev TD.v (t : TD) : Value := txnV t.p t.e t.s t.u t.ra t.rl t.rc t.la t.ll t.lc
abbrev RD.obj (r : RD) : Obj := ringObj r.cap r.first r.ra r.rl r.rc r.ca r.cl r.cc
abbrev TD.obj (t : TD) : Obj := txnObj t.p t.e t.s t.u t.ra t.rl t.rc t.la t.ll t.lc
abbrev RD.fit (r : RD) (w : World) : Prop := RFit w r.ra r.rl r.rc r.ca r.cl r.cc r.recs r.curs
structure TFit (w : World) (t : TD) : Prop where
  r : NumIn w t.ra t.rl t.rc t.rs
  l : NumIn w t.la t.ll t.lc t.ls
  rle : t.rl ≤ 1048576
  lle : t.ll ≤ 1048576
  pw : -9223372036854775808 ≤ t.p ∧ t.p ≤ 9223372036854775807
  rcm : t.rc ≤ maxLen
  lcm : t.lc ≤ maxLen
theorem TFit.below {w w' : World} {t : TD} (h : TFit w t) (hb : Below w.heap.size w w') : TFit w' t := ⟨h.r.below hb,h.l.below hb,h.rle,h.lle,h.pw,h.rcm,h.lcm⟩
theorem TFit.tin {w : World} {t : TD} (h : TFit w t) : TIn w t.ra t.rl t.la t.ll t.rs t.ls := ⟨h.r.nums,h.l.nums,h.rle,h.lle⟩
def RngsG (Q : World → RD → Prop) (w : World) (a : Option Addr) (len : Nat) (l : List RD) : Prop :=
  l.length = len ∧ ∀ i (h : i < l.length),∃ b off,a = some ⟨b,off,none⟩ ∧
    w.cell? ⟨b,off + i * 4,none⟩ = some (.int .i64 l[i].cap) ∧ w.cell? ⟨b,off + i * 4 + 1,none⟩ = some (.int .i64 l[i].first) ∧
    w.cell? ⟨b,off + i * 4 + 2,none⟩ = some (.slice l[i].ra l[i].rl l[i].rc) ∧ w.cell? ⟨b,off + i * 4 + 3,none⟩ = some (.slice l[i].ca l[i].cl l[i].cc) ∧ Q w l[i]
def TxsG (Q : World → TD → Prop) (w : World) (a : Option Addr) (len : Nat) (l : List TD) : Prop :=
  l.length = len ∧ ∀ i (h : i < l.length),∃ b off,a = some ⟨b,off,none⟩ ∧
    w.cell? ⟨b,off + i * 6,none⟩ = some (.int .i64 l[i].p) ∧ w.cell? ⟨b,off + i * 6 + 1,none⟩ = some (.int .i64 l[i].e) ∧
    w.cell? ⟨b,off + i * 6 + 2,none⟩ = some (.int .i64 l[i].s) ∧ w.cell? ⟨b,off + i * 6 + 3,none⟩ = some (.int .i64 l[i].u) ∧
    w.cell? ⟨b,off + i * 6 + 4,none⟩ = some (.slice l[i].ra l[i].rl l[i].rc) ∧ w.cell? ⟨b,off + i * 6 + 5,none⟩ = some (.slice l[i].la l[i].ll l[i].lc) ∧ Q w l[i]
def Keeps {α : Type} (Q : World → α → Prop) : Prop := ∀ w w' x,Below w.heap.size w w' → Q w x → Q w' x
theorem cell_below {w w' : World} {b o : Nat} {v : Value} (h : w.cell? ⟨b,o,none⟩ = some v) (hb : Below w.heap.size w w') : w'.cell? ⟨b,o,none⟩ = some v :=
  (hb.cell (p := ⟨b,o,none⟩) (World.block_lt_of_cell? w ⟨b,o,none⟩ h)).trans h
theorem rngsG_below {Q : World → RD → Prop} (hQ : Keeps Q) {w w' : World} {a : Option Addr} {len : Nat} {l : List RD} (h : RngsG Q w a len l) (hb : Below w.heap.size w w') : RngsG Q w' a len l :=
  ⟨h.1,fun i hi => by
    obtain ⟨b,off,e,h0,h1,h2,h3,hf⟩ := h.2 i hi
    exact ⟨b,off,e,cell_below h0 hb,cell_below h1 hb,cell_below h2 hb,cell_below h3 hb,hQ _ _ _ hb hf⟩⟩
theorem txsG_below {Q : World → TD → Prop} (hQ : Keeps Q) {w w' : World} {a : Option Addr} {len : Nat} {l : List TD} (h : TxsG Q w a len l) (hb : Below w.heap.size w w') : TxsG Q w' a len l :=
  ⟨h.1,fun i hi => by
    obtain ⟨b,off,e,h0,h1,h2,h3,h4,h5,hf⟩ := h.2 i hi
    exact ⟨b,off,e,cell_below h0 hb,cell_below h1 hb,cell_below h2 hb,cell_below h3 hb,cell_below h4 hb,cell_below h5 hb,hQ _ _ _ hb hf⟩⟩
theorem rngsG_at {Q : World → RD → Prop} (hQ : Keeps Q) {w wr : World} {a : Option Addr} {n : Nat} {l : List RD} (h : RngsG Q w a n l) (hb : Below w.heap.size w wr) {k : Nat} (hk : k < n) :
    ∃ b off,∃ r : RD,a = some ⟨b,off,none⟩ ∧ l[k]? = some r ∧ wr.cell? ⟨b,off + k * 4,none⟩ = some (.int .i64 r.cap) ∧ wr.cell? ⟨b,off + k * 4 + 1,none⟩ = some (.int .i64 r.first) ∧
      wr.cell? ⟨b,off + k * 4 + 2,none⟩ = some (.slice r.ra r.rl r.rc) ∧ wr.cell? ⟨b,off + k * 4 + 3,none⟩ = some (.slice r.ca r.cl r.cc) ∧ Hid (Q wr r) := by
  have hkl : k < l.length := by rw [h.1]; exact hk
  obtain ⟨b,off,e,h0,h1,h2,h3,hf⟩ := (rngsG_below hQ h hb).2 k hkl
  exact ⟨b,off,l[k],e,by simp [hkl],h0,h1,h2,h3,hf⟩
theorem txsG_at {Q : World → TD → Prop} (hQ : Keeps Q) {w wr : World} {a : Option Addr} {n : Nat} {l : List TD} (h : TxsG Q w a n l) (hb : Below w.heap.size w wr) {k : Nat} (hk : k < n) :
    ∃ b off,∃ t : TD,a = some ⟨b,off,none⟩ ∧ l[k]? = some t ∧ wr.cell? ⟨b,off + k * 6,none⟩ = some (.int .i64 t.p) ∧ wr.cell? ⟨b,off + k * 6 + 1,none⟩ = some (.int .i64 t.e) ∧
      wr.cell? ⟨b,off + k * 6 + 2,none⟩ = some (.int .i64 t.s) ∧ wr.cell? ⟨b,off + k * 6 + 3,none⟩ = some (.int .i64 t.u) ∧
      wr.cell? ⟨b,off + k * 6 + 4,none⟩ = some (.slice t.ra t.rl t.rc) ∧ wr.cell? ⟨b,off + k * 6 + 5,none⟩ = some (.slice t.la t.ll t.lc) ∧ Hid (Q wr t) := by
  have hkl : k < l.length := by rw [h.1]; exact hk
  obtain ⟨b,off,e,h0,h1,h2,h3,h4,h5,hf⟩ := (txsG_below hQ h hb).2 k hkl
  exact ⟨b,off,l[k],e,by simp [hkl],h0,h1,h2,h3,h4,h5,hf⟩
theorem keeps_fit : Keeps (fun w (r : RD) => r.fit w) := fun _ _ _ hb h => h.below hb
theorem keeps_tfit : Keeps (fun w (t : TD) => TFit w t) := fun _ _ _ hb h => h.below hb
abbrev Rngs (w : World) (a : Option Addr) (len : Nat) (l : List RD) : Prop := RngsG (fun w r => r.fit w) w a len l
abbrev Txs (w : World) (a : Option Addr) (len : Nat) (l : List TD) : Prop := TxsG (fun w t => TFit w t) w a len l
theorem rngs_below {w w' : World} {a : Option Addr} {len : Nat} {l : List RD} (h : Rngs w a len l) (hb : Below w.heap.size w w') : Rngs w' a len l := rngsG_below keeps_fit h hb
theorem txs_below {w w' : World} {a : Option Addr} {len : Nat} {l : List TD} (h : Txs w a len l) (hb : Below w.heap.size w w') : Txs w' a len l := txsG_below keeps_tfit h hb
abbrev fabVal (ra : Option Addr) (rl rc : Nat) (ea : Option Addr) (el ec : Nat) (ta : Option Addr) (tl tc : Nat) (now : Int) : Value := .agg #[.slice ra rl rc,.slice ea el ec,.slice ta tl tc,.int .i64 now]
abbrev fabO (ra : Option Addr) (rl rc : Nat) (ea : Option Addr) (el ec : Nat) (ta : Option Addr) (tl tc : Nat) (now : Int) : Obj := .cells #[.slice ra rl rc,.slice ea el ec,.slice ta tl tc,.int .i64 now] 31 (0,0)
structure FB (w wr : World) (o : Obj) : Prop where
  box : wr.heap[w.heap.size]? = some o
  bel : Below w.heap.size w wr
theorem fb_lt {u : World} {i : Nat} {o : Obj} (h : u.heap[i]? = some o) : i < u.heap.size := (Array.getElem?_eq_some_iff.1 h).1
theorem FB.under {w u v : World} {o : Obj} (h : FB w u o) (hb : Below u.heap.size u v) : FB w v o := ⟨(hb.block _ (fb_lt h.box)).trans h.box,below_tr h.bel hb⟩
theorem fb_new (w : World) (C : Array Value) (t : TypeId) : FB w (w.alloc (.cells C t)) (.cells C t (0,0)) := ⟨heap_alloc_new _ _,(Below.refl _ _).alloc (Nat.le_refl _) _⟩
theorem fbelow_new (w : World) (o : Obj) : Below w.heap.size w (w.alloc o) := (Below.refl _ _).alloc (Nat.le_refl _) _
theorem fb_cell {w : World} {g : Nat} {C : Array Value} {t : TypeId} (h : w.heap[g]? = some (.cells C t (0,0))) (o : Nat) : w.cell? ⟨g,o,none⟩ = C[o]? := by
  simp [World.cell?,h]
structure FIn (w : World) (ra : Option Addr) (rl : Nat) (ea : Option Addr) (el : Nat) (ta : Option Addr) (tl : Nat) (rs : List RD) (es : List Int) (ts : List TD) : Prop where
  rs : Rngs w ra rl rs
  es : Nums w ea el es
  ts : Txs w ta tl ts
  rle : rl ≤ 1048576
  ele : el ≤ 1048576
  tle : tl ≤ 1048576
theorem FIn.below {w w' : World} {ra : Option Addr} {rl : Nat} {ea : Option Addr} {el : Nat} {ta : Option Addr} {tl : Nat} {rs : List RD} {es : List Int} {ts : List TD} (h : FIn w ra rl ea el ta tl rs es ts) (hb : Below w.heap.size w w') : FIn w' ra rl ea el ta tl rs es ts :=
  ⟨rngs_below h.rs hb,nums_below h.es hb,txs_below h.ts hb,h.rle,h.ele,h.tle⟩
def owesB (k : Int) (t : TD) : Bool := hasB t.ls k || (t.s == 1 && hasB t.rs k)
def owedN (ts : List TD) (k : Int) : Nat := ts.countP (owesB k)
theorem owedN_le (ts : List TD) (k : Int) : owedN ts k ≤ ts.length := List.countP_le_length
theorem owedN_succ {ts : List TD} {j : Nat} {t : TD} (k : Int) (h : ts[j]? = some t) : owedN (ts.take (j + 1)) k = owedN (ts.take j) k + (if owesB k t then 1 else 0) := by
  obtain ⟨hj,e⟩ := List.getElem?_eq_some_iff.1 h
  rw [List.take_succ_eq_append_getElem hj,e]
  simp [owedN,List.countP_append]
def numFitB (ts : List TD) (k : Int) (n : Int) : Bool := decide (1 ≤ n) && (match ts[(n - 1).toNat]? with | some t => hasB t.rs k | none => false)
def recFitB (ts : List TD) (k : Int) (s : ByteArray) : Bool := numFitB ts k (readRes s).2.1
def ringFitB (ts : List TD) (k : Int) (r : RD) : Bool :=
  ringRightB r.cap r.first r.recs r.curs && decide ((owedN ts k : Int) ≤ r.cap - (r.recs.length : Int)) && decide (r.first + (r.recs.length : Int) + (owedN ts k : Int) ≤ 1000000) && r.recs.all (recFitB ts k)
def epochAt (es : List Int) (p : Int) : Int := es.getD (p - 1).toNat 0
def ringsIn (n : Nat) (rs : List Int) : Bool := rs.all (fun x => decide (x < (n : Int)))
def txnFitB (es : List Int) (n : Nat) (now : Int) (t : TD) : Bool :=
  txnRightB t.p t.e t.s t.u t.rs t.ls && decide (t.e ≤ epochAt es t.p) && ringsIn n t.rs && (t.s != 1 || (t.e == epochAt es t.p && decide (now < t.u)))
def openTo (ts : List TD) (k : Nat) : Prop := ∀ i j,i < j → j < k → ∀ (hi : i < ts.length) (hj : j < ts.length),ts[i].s = 1 → ts[j].s = 1 → ts[i].p ≠ ts[j].p
def openAt (ts : List TD) (k : Nat) (p : Int) : Bool := (ts.take k).any (fun t => t.s == 1 && t.p == p)
def openB (ts : List TD) : Bool := (List.range ts.length).all fun j => match ts[j]? with | some t => !(t.s == 1 && openAt ts j t.p) | none => true
def txnsFitB (es : List Int) (n : Nat) (now : Int) (ts : List TD) : Bool := ts.all (txnFitB es n now) && openB ts
def timeB (n : Int) : Bool := decide (0 ≤ n ∧ n ≤ 1000000)
def fabSizesB (rs : List RD) (es : List Int) (ts : List TD) : Bool := decide (1 ≤ rs.length ∧ rs.length ≤ 4 ∧ es.length = 4 ∧ ts.length ≤ 12)
def ringsFitB (ts : List TD) (rs : List RD) : Bool := decide (∀ k,k < rs.length → ∀ (h : k < rs.length),ringFitB ts (k : Int) rs[k] = true)
def fabRightB (rs : List RD) (es : List Int) (ts : List TD) (now : Int) : Bool :=
  fabSizesB rs es ts && timeB now && es.all timeB && txnsFitB es rs.length now ts && ringsFitB ts rs
end Go.Proofs.YtahccighonddaaaGreatDoor
namespace Go.Proofs.YtahccighonddaaaGreatDoor
open Go.RowKit
def txnTo (es : List Int) (n : Nat) (now : Int) (ts : List TD) (k : Nat) : Prop := ∀ j,j < k → ∀ (h : j < ts.length),txnFitB es n now ts[j] = true
theorem txnTo_succ {es : List Int} {n : Nat} {now : Int} {ts : List TD} {k : Nat} {t : TD} (h : txnTo es n now ts k) (hk : ts[k]? = some t) (ht : txnFitB es n now t = true) : txnTo es n now ts (k + 1) := fun j hj hl => by
  by_cases e : j = k
  · subst e
    rw [List.getElem?_eq_getElem hl] at hk
    cases hk; exact ht
  · exact h j (by omega) hl
theorem open_some {ts : List TD} {k : Nat} {p : Int} (h : openAt ts k p = true) : ∃ j t,j < k ∧ ts[j]? = some t ∧ t.s = 1 ∧ t.p = p := by
  unfold openAt at h
  rw [List.any_eq_true] at h
  obtain ⟨t,ht,hp⟩ := h
  obtain ⟨j,hj,e⟩ := List.getElem_of_mem ht
  have hj' : j < k ∧ j < ts.length := by rw [List.length_take] at hj; omega
  simp at hp
  refine ⟨j,t,hj'.1,?_,hp.1,hp.2⟩
  rw [List.getElem_take] at e
  rw [List.getElem?_eq_getElem hj'.2,e]
theorem open_none {ts : List TD} {k : Nat} {p : Int} (h : openAt ts k p = false) {j : Nat} {t : TD} (hj : j < k) (ht : ts[j]? = some t) (hs : t.s = 1) : t.p ≠ p := by
  unfold openAt at h
  rw [List.any_eq_false] at h
  have hm : t ∈ ts.take k := by
    have : (ts.take k)[j]? = some t := by rw [List.getElem?_take_of_lt hj]; exact ht
    exact List.mem_of_getElem? this
  have := h t hm
  simp [hs] at this
  exact this
theorem openB_yes {ts : List TD} (h : openTo ts ts.length) : openB ts = true := by
  unfold openB
  rw [List.all_eq_true]
  intro j hj
  have hj' : j < ts.length := by simpa using hj
  rw [List.getElem?_eq_getElem hj']
  simp only
  cases hb : (ts[j].s == 1 && openAt ts j ts[j].p) with
  | false => rfl
  | true =>
    simp at hb
    obtain ⟨i,t,hi,ht,hs,hp⟩ := open_some hb.2
    obtain ⟨hi',e⟩ := List.getElem?_eq_some_iff.1 ht
    exact absurd (by rw [e]; exact hp) (h i j hi hj' hi' hj' (by rw [e]; exact hs) hb.1)
theorem openB_no {ts : List TD} {i j : Nat} {t u : TD} (hi : ts[i]? = some t) (hj : ts[j]? = some u) (hij : i < j) (h1 : t.s = 1) (h2 : u.s = 1) (h : t.p = u.p) : openB ts = false := by
  unfold openB
  rw [List.all_eq_false]
  have hj' := (List.getElem?_eq_some_iff.1 hj).1
  refine ⟨j,by simpa using hj',?_⟩
  rw [hj]
  simp only
  have : openAt ts j u.p = true := by
    cases hb : openAt ts j u.p with
    | true => rfl
    | false => exact absurd h (open_none hb hij hi h1)
  simp [h2,this]
theorem fits_yes {es : List Int} {n : Nat} {now : Int} {ts : List TD} {k : Nat} (hk : ts.length ≤ k) (h : txnTo es n now ts k) (ho : openTo ts k) : txnsFitB es n now ts = true := by
  have e : ts.all (txnFitB es n now) = true := by
    rw [List.all_eq_true]
    intro x hx
    obtain ⟨j,hj,rfl⟩ := List.getElem_of_mem hx
    exact h j (by omega) hj
  have e2 : openB ts = true := openB_yes fun i j hij hj => ho i j hij (by omega)
  simp only [txnsFitB,e,e2,Bool.and_true]
theorem fits_no {es : List Int} {n : Nat} {now : Int} {ts : List TD} {k : Nat} {t : TD} (hk : ts[k]? = some t) (h : txnFitB es n now t = false) : txnsFitB es n now ts = false := by
  have e : ts.all (txnFitB es n now) = false := by
    rw [List.all_eq_false]
    exact ⟨t,List.mem_of_getElem? hk,by simp [h]⟩
  simp [txnsFitB,e]
theorem fits_two {es : List Int} {n : Nat} {now : Int} {ts : List TD} {i j : Nat} {t u : TD} (hi : ts[i]? = some t) (hj : ts[j]? = some u) (hij : i < j) (h1 : t.s = 1) (h2 : u.s = 1) (h : t.p = u.p) : txnsFitB es n now ts = false := by
  simp only [txnsFitB,openB_no hi hj hij h1 h2 h,Bool.and_false]
def openL (ts : List TD) (k : Nat) : List Bool := (List.range 5).map (fun (p : Nat) => openAt ts k (p : Int))
theorem openL_length (ts : List TD) (k : Nat) : (openL ts k).length = 5 := by simp [openL]
theorem openL_at (ts : List TD) (k p : Nat) (h : p < 5) : (openL ts k)[p]? = some (openAt ts k (p : Int)) := by simp [openL,h]
theorem openL_zero (ts : List TD) : openL ts 0 = [false,false,false,false,false] := by simp [openL,openAt]; rfl
theorem openAt_succ {ts : List TD} {k : Nat} {t : TD} (hk : ts[k]? = some t) (p : Int) : openAt ts (k + 1) p = (openAt ts k p || (t.s == 1 && t.p == p)) := by
  obtain ⟨hj,e⟩ := List.getElem?_eq_some_iff.1 hk
  unfold openAt
  rw [List.take_succ_eq_append_getElem hj,e]
  simp
theorem openL_not {ts : List TD} {k : Nat} {t : TD} (hk : ts[k]? = some t) (hs : t.s ≠ 1) : openL ts (k + 1) = openL ts k := by
  unfold openL
  congr 1
  funext p
  rw [openAt_succ hk]
  simp [hs]
theorem openL_set {ts : List TD} {k : Nat} {t : TD} (hk : ts[k]? = some t) (hs : t.s = 1) (h : 1 ≤ t.p ∧ t.p ≤ 4) : (openL ts k).set t.p.toNat true = openL ts (k + 1) := by
  apply List.ext_getElem?
  intro i
  rw [List.getElem?_set]
  by_cases hi : i < 5
  · rw [openL_at _ _ _ hi,openL_at _ _ _ hi,openAt_succ hk,openL_length]
    by_cases e : t.p.toNat = i
    · have : t.p = (i : Int) := by omega
      simp [hi,hs,this]
    · have : ¬ t.p = (i : Int) := by omega
      simp [e,this]
  · rw [List.getElem?_eq_none (by rw [openL_length]; omega),List.getElem?_eq_none (by rw [openL_length]; omega)]
    rw [if_neg (by omega)]
theorem openTo_succ {ts : List TD} {k : Nat} {t : TD} (ho : openTo ts k) (hk : ts[k]? = some t) (h : t.s = 1 → openAt ts k t.p = false) : openTo ts (k + 1) := fun i j hij hj hi hj' h1 h2 => by
  by_cases e : j = k
  · subst e
    rw [List.getElem?_eq_getElem hj'] at hk
    cases hk
    exact open_none (h h2) hij (List.getElem?_eq_getElem hi) h1
  · exact ho i j hij (by omega) hi hj' h1 h2
theorem ringsIn_last {n : Nat} {rs : List Int} {k : Nat} (hk : k + 1 = rs.length) {V : Int} (hV : rs[k]? = some V) (h : ringsB rs = true) : ringsIn n rs = decide (V < (n : Int)) := by
  have hu : upB rs = true := by simp [ringsB] at h; exact h.2
  obtain ⟨hk',e⟩ := List.getElem?_eq_some_iff.1 hV
  by_cases hlt : V < (n : Int)
  · rw [decide_eq_true hlt]
    unfold ringsIn
    rw [List.all_eq_true]
    intro x hx
    obtain ⟨j,hj,rfl⟩ := List.getElem_of_mem hx
    by_cases ej : j = k
    · subst ej; rw [e]; exact decide_eq_true hlt
    · have := up_at hu (i := j) (j := k) (by omega) hk'
      exact decide_eq_true (by omega)
  · rw [decide_eq_false hlt]
    unfold ringsIn
    rw [List.all_eq_false]
    exact ⟨V,List.mem_of_getElem? hV,by simp; omega⟩
theorem txnRight_bnd {p e s u : Int} {rs ls : List Int} (h : txnRightB p e s u rs ls = true) : (1 ≤ p ∧ p ≤ 4) ∧ (1 ≤ e ∧ e ≤ 1000000) ∧ (1 ≤ s ∧ s ≤ 3) ∧ (0 ≤ u ∧ u ≤ 1000000) ∧ ringsB rs = true ∧ ringsB ls = true := by
  simp [txnRightB] at h
  obtain ⟨⟨⟨⟨⟨⟨⟨h1,h2⟩,h3⟩,h4⟩,h5⟩,h6⟩,_⟩,_⟩ := h
  exact ⟨h1,h2,h3,h4,h5,h6⟩
theorem epoch_at {es : List Int} {p : Int} {V : Int} {k : Nat} (hk : (k : Int) = p - 1) (hV : es[k]? = some V) : epochAt es p = V := by
  have : (p - 1).toNat = k := by omega
  unfold epochAt
  rw [this,List.getD_eq_getElem?_getD,hV]; rfl
theorem numFit_at {ts : List TD} {k n : Int} {j : Nat} {t : TD} (hj : (j : Int) = n - 1) (h : ts[j]? = some t) : numFitB ts k n = hasB t.rs k := by
  have e : (n - 1).toNat = j := by omega
  have h1 : 1 ≤ n := by omega
  simp [numFitB,e,h,h1]
theorem numFit_no {ts : List TD} {k n : Int} (h : ¬ (1 ≤ n ∧ n ≤ (ts.length : Int))) : numFitB ts k n = false := by
  unfold numFitB
  by_cases h1 : 1 ≤ n
  · have : ts[(n - 1).toNat]? = none := List.getElem?_eq_none (by omega)
    rw [this]; simp
  · simp [h1]
def recTo (ts : List TD) (k : Int) (recs : List ByteArray) (j : Nat) : Prop := ∀ i,i < j → ∀ (h : i < recs.length),recFitB ts k recs[i] = true
theorem recTo_all {ts : List TD} {k : Int} {recs : List ByteArray} {j : Nat} (hj : recs.length ≤ j) (h : recTo ts k recs j) : recs.all (recFitB ts k) = true := by
  rw [List.all_eq_true]
  intro x hx
  obtain ⟨i,hi,rfl⟩ := List.getElem_of_mem hx
  exact h i (by omega) hi
theorem recTo_no {ts : List TD} {k : Int} {recs : List ByteArray} {j : Nat} (hj : j < recs.length) (h : recFitB ts k recs[j] = false) : recs.all (recFitB ts k) = false := by
  rw [List.all_eq_false]
  exact ⟨recs[j],List.getElem_mem hj,by simp [h]⟩
theorem recTo_succ {ts : List TD} {k : Int} {recs : List ByteArray} {j : Nat} (h : recTo ts k recs j) (hj : j < recs.length) (hr : recFitB ts k recs[j] = true) : recTo ts k recs (j + 1) := fun i hi hl => by
  by_cases e : i = j
  · subst e; exact hr
  · exact h i (by omega) hl
def ringTo (ts : List TD) (rs : List RD) (j : Nat) : Prop := ∀ i,i < j → ∀ (h : i < rs.length),ringFitB ts (i : Int) rs[i] = true
theorem ringTo_yes {ts : List TD} {rs : List RD} {j : Nat} (hj : rs.length ≤ j) (h : ringTo ts rs j) : ringsFitB ts rs = true := decide_eq_true fun k hk _ => h k (by omega) hk
theorem ringTo_no {ts : List TD} {rs : List RD} {j : Nat} {r : RD} (hr : rs[j]? = some r) (h : ringFitB ts (j : Int) r = false) : ringsFitB ts rs = false := decide_eq_false fun hh => by
  obtain ⟨hj,e⟩ := List.getElem?_eq_some_iff.1 hr
  have := hh j hj hj
  rw [e,h] at this
  cases this
theorem ringTo_succ {ts : List TD} {rs : List RD} {j : Nat} {r : RD} (h : ringTo ts rs j) (hr : rs[j]? = some r) (hf : ringFitB ts (j : Int) r = true) : ringTo ts rs (j + 1) := fun i hi hl => by
  by_cases e : i = j
  · subst e
    rw [List.getElem?_eq_getElem hl] at hr
    cases hr; exact hf
  · exact h i (by omega) hl
def timeTo (es : List Int) (k : Nat) : Prop := ∀ j,j < k → ∀ (h : j < es.length),timeB es[j] = true
end Go.Proofs.YtahccighonddaaaGreatDoor
namespace Go.Proofs.YtahccighonddaaaGreatDoor
open Go.RowKit
attribute [local go_sem ↓] Go.wp_at_zero Go.wp_at_succ
abbrev workC (ta : Option Addr) (tl tc M : Nat) (ra : Option Addr) (rl rc : Nat) (ea : Option Addr) (el ec : Nat) (now began puts : Int) : Array Value :=
  #[.slice ta tl tc,.map (some M),.slice ra rl rc,.slice ea el ec,.int .i64 now,.int .i64 began,.int .i64 puts]
abbrev workO (ta : Option Addr) (tl tc M : Nat) (ra : Option Addr) (rl rc : Nat) (ea : Option Addr) (el ec : Nat) (now began puts : Int) : Obj :=
  .cells (workC ta tl tc M ra rl rc ea el ec now began puts) 135 (0,0)
variable {B : Nat} {ta : Option Addr} {tl tc M : Nat} {ra : Option Addr} {rl rc : Nat} {ea : Option Addr} {el ec : Nat} {now began puts : Int}
theorem impl_sizes (ra : Option Addr) (rl rc : Nat) (ea : Option Addr) (el ec : Nat) (ta : Option Addr) (tl tc : Nat) (now : Int) (w : World) (hr : rl ≤ 1048576) (_he : el ≤ 1048576) (ht : tl ≤ 1048576) :
    Calls Tryz.prog 131 #[fabVal ra rl rc ea el ec ta tl tc now] w fun x w' => x = .returned (.bool (decide (1 ≤ rl ∧ rl ≤ 4 ∧ el = 4 ∧ tl ≤ 12))) ∧ Below w.heap.size w w' := by
  by_cases h1 : 1 ≤ rl
  case neg =>
    have h1' : decide ((1 : Int) ≤ (rl : Int)) = false := decide_eq_false (by omega)
    go_enter Tryz.func131,Tryz.ntmps131
    go_wp2
    go_ret
    exact ⟨ret_bool (decide_eq_false (by omega)).symm,fbelow_new _ _⟩
  have h1' : decide ((1 : Int) ≤ (rl : Int)) = true := decide_eq_true (by omega)
  by_cases h2 : rl ≤ 4
  case neg =>
    have h2' : decide ((rl : Int) ≤ (4 : Int)) = false := decide_eq_false (by omega)
    go_enter Tryz.func131,Tryz.ntmps131
    go_wp2
    go_ret
    exact ⟨ret_bool (decide_eq_false (by omega)).symm,fbelow_new _ _⟩
  have h2' : decide ((rl : Int) ≤ (4 : Int)) = true := decide_eq_true (by omega)
  by_cases h3 : el = 4
  case neg =>
    have h3' : ((el : Int) == 4) = false := by rw [beq_eq_false_iff_ne]; omega
    go_enter Tryz.func131,Tryz.ntmps131
    go_wp2
    go_ret
    exact ⟨ret_bool (decide_eq_false (by omega)).symm,fbelow_new _ _⟩
  have h3' : ((el : Int) == 4) = true := by rw [beq_iff_eq]; omega
  by_cases h4 : tl ≤ 12
  case neg =>
    have h4' : decide ((tl : Int) ≤ (12 : Int)) = false := decide_eq_false (by omega)
    go_enter Tryz.func131,Tryz.ntmps131
    go_wp2
    go_ret
    exact ⟨ret_bool (decide_eq_false (by omega)).symm,fbelow_new _ _⟩
  have h4' : decide ((tl : Int) ≤ (12 : Int)) = true := decide_eq_true (by omega)
  go_enter Tryz.func131,Tryz.ntmps131
  go_wp2
  go_ret
  exact ⟨ret_bool (decide_eq_true (by omega)).symm,fbelow_new _ _⟩
theorem impl_epochOf (es : List Int) (P : Nat) (V : Int) (w : World) (hb : w.heap[B]? = some (workO ta tl tc M ra rl rc ea 4 ec now began puts)) (he : Nums w ea 4 es) (hP : P < 4) (hV : es[P]? = some V) :
    Calls Tryz.prog 143 #[.pointer (some ⟨B,0,none⟩),.int .i64 ((P : Int) + 1)] w fun x w' => x = .returned (.int .i64 V) ∧ w' = w := by
  have cf := fun o => fb_cell hb o
  obtain ⟨b2,off2,V',rfl,hV',cV⟩ := nums_at he (Below.refl _ _) (k := P) hP
  obtain rfl : V = V' := Option.some.inj (hV.symm.trans hV')
  have hW1 : IntKind.i64.wrap (P : Int) = (P : Int) := twrap_in _ (by omega) (by omega)
  have hPI : (P : Int) < 4 := by omega
  clear hb he hV hV'
  go_enter Tryz.func143,Tryz.ntmps143
  go_wp2
  go_ret
  exact ⟨rfl,rfl⟩
theorem impl_hasRing (n : Int) (w : World) (hb : w.heap[B]? = some (workO ta tl tc M ra rl rc ea el ec now began puts)) (_hrl : rl ≤ 1048576) :
    Calls Tryz.prog 92 #[.pointer (some ⟨B,0,none⟩),.int .i64 n] w fun x w' => x = .returned (.bool (decide (0 ≤ n ∧ n < (rl : Int)))) ∧ w' = w := by
  have cf := fun o => fb_cell hb o
  clear hb
  by_cases h1 : 0 ≤ n
  · have h1' : decide (0 ≤ n) = true := decide_eq_true h1
    by_cases h2 : n < (rl : Int)
    · have h2' : decide (n < (rl : Int)) = true := decide_eq_true h2
      go_enter Tryz.func92,Tryz.ntmps92
      go_wp2
      go_ret
      exact ⟨ret_bool (by first | rfl | exact (decide_eq_true ⟨h1,h2⟩).symm),rfl⟩
    · have h2' : decide (n < (rl : Int)) = false := decide_eq_false h2
      go_enter Tryz.func92,Tryz.ntmps92
      go_wp2
      go_ret
      exact ⟨ret_bool (by first | rfl | exact (decide_eq_false (by omega)).symm),rfl⟩
  · have h1' : decide (0 ≤ n) = false := decide_eq_false h1
    go_enter Tryz.func92,Tryz.ntmps92
    go_wp2
    go_ret
    exact ⟨ret_bool (by first | rfl | exact (decide_eq_false (by omega)).symm),rfl⟩
theorem impl_hasNumber (n : Int) (w : World) (hb : w.heap[B]? = some (workO ta tl tc M ra rl rc ea el ec now began puts)) (_htl : tl ≤ 1048576) :
    Calls Tryz.prog 219 #[.pointer (some ⟨B,0,none⟩),.int .i64 n] w fun x w' => x = .returned (.bool (decide (1 ≤ n ∧ n ≤ (tl : Int)))) ∧ w' = w := by
  have cf := fun o => fb_cell hb o
  clear hb
  by_cases h1 : 1 ≤ n
  · have h1' : decide (1 ≤ n) = true := decide_eq_true h1
    by_cases h2 : n ≤ (tl : Int)
    · have h2' : decide (n ≤ (tl : Int)) = true := decide_eq_true h2
      go_enter Tryz.func219,Tryz.ntmps219
      go_wp2
      go_ret
      exact ⟨ret_bool (by first | rfl | exact (decide_eq_true ⟨h1,h2⟩).symm),rfl⟩
    · have h2' : decide (n ≤ (tl : Int)) = false := decide_eq_false h2
      go_enter Tryz.func219,Tryz.ntmps219
      go_wp2
      go_ret
      exact ⟨ret_bool (by first | rfl | exact (decide_eq_false (by omega)).symm),rfl⟩
  · have h1' : decide (1 ≤ n) = false := decide_eq_false h1
    go_enter Tryz.func219,Tryz.ntmps219
    go_wp2
    go_ret
    exact ⟨ret_bool (by first | rfl | exact (decide_eq_false (by omega)).symm),rfl⟩
theorem impl_leftOn (t : TD) (n : Int) (w : World) (h : TFit w t) :
    Calls Tryz.prog 199 #[t.v,.int .i64 n] w fun x w' => x = .returned (.bool (findNB n t.ls)) ∧ Below w.heap.size w w' := by
  have HL : Hid (∀ o,Nums (w.alloc o) t.la t.ll t.ls) := fun o => nums_below h.l.nums (fbelow_new _ _)
  have hle := h.lle
  clear h
  go_enter Tryz.func199,Tryz.ntmps199
  go_wp2_with fail
  refine (impl_findN t.la t.ll t.lc n t.ls _ (HL.out _) hle).mono ?_
  rintro x w1 ⟨rfl,hw1⟩
  rw [hw1]
  clear hw1 w1
  go_wp2
  go_ret
  exact ⟨rfl,fbelow_new _ _⟩
structure FA (w v : World) (B : Nat) (o : Obj) (ra : Option Addr) (rl : Nat) (ea : Option Addr) (el : Nat) (ta : Option Addr) (tl : Nat) (rs : List RD) (es : List Int) (ts : List TD) : Prop where
  box : v.heap[B]? = some o
  fin : FIn v ra rl ea el ta tl rs es ts
  bel : Below w.heap.size w v
theorem FA.under {w u v : World} {B : Nat} {o : Obj} {ra : Option Addr} {rl : Nat} {ea : Option Addr} {el : Nat} {ta : Option Addr} {tl : Nat} {rs : List RD} {es : List Int} {ts : List TD} (h : FA w u B o ra rl ea el ta tl rs es ts) (hb : Below u.heap.size u v) : FA w v B o ra rl ea el ta tl rs es ts :=
  ⟨(hb.block _ (fb_lt h.box)).trans h.box,h.fin.below hb,below_tr h.bel hb⟩
set_option maxHeartbeats 2000000 in
theorem impl_hasRings (a : Option Addr) (n c : Nat) (l : List Int) (w : World) (hb : w.heap[B]? = some (workO ta tl tc M ra rl rc ea el ec now began puts)) (hl : Nums w a n l) (hn : n ≤ 1048576) (hrl : rl ≤ 1048576) :
    Calls Tryz.prog 187 #[.pointer (some ⟨B,0,none⟩),.slice a n c] w fun x w' => x = .returned (.bool (l.all fun n => decide (0 ≤ n ∧ n < (rl : Int)))) ∧ w' = w := by
  have HB : Hid (w.heap[B]? = some (workO ta tl tc M ra rl rc ea el ec now began puts)) := hb
  have HC : Hid (Nums w a n l) := hl
  have HL : Hid (l.length = n) := hl.1
  clear hb hl
  go_enter Tryz.func187,Tryz.ntmps187
  go_wp2
  go_loop [9] (fun i => ∃ k : Nat,k ≤ n ∧ i = .int .i64 k ∧ Hid (fitTo (fun n => decide (0 ≤ n ∧ n < (rl : Int))) l k)) (fun i => n - (intOf i).toNat)
  case atStart => exact ⟨0,by omega,rfl,fun j hj => by omega⟩
  case round =>
    obtain ⟨k,hk,rfl,hr⟩ := hrel
    by_cases hlt : k < n
    · obtain ⟨b,off,rfl,hj,g1⟩ := nums_get HC.out (Below.refl _ _) (k := k) hlt
      have hN : decide (0 ≤ l[k] ∧ l[k] < (rl : Int)) = false → Hid ((l.all fun n => decide (0 ≤ n ∧ n < (rl : Int))) = false) := fun h => fit_no (f := fun n => decide (0 ≤ n ∧ n < (rl : Int))) hj h
      have hY : decide (0 ≤ l[k] ∧ l[k] < (rl : Int)) = true → Hid (fitTo (fun n => decide (0 ≤ n ∧ n < (rl : Int))) l (k + 1)) := fun h i hi h1 => by
        by_cases hik : i = k
        · subst hik; exact h
        · exact hr.out i (by omega) h1
      obtain ⟨V,hV⟩ : ∃ V,l[k] = V := ⟨_,rfl⟩
      rw [hV] at g1 hN hY
      obtain ⟨R,hR⟩ : ∃ R,decide (0 ≤ V ∧ V < (rl : Int)) = R := ⟨_,rfl⟩
      have HQ : Hid _ := fun w hb => impl_hasRing (B := B) (ta := ta) (tl := tl) (tc := tc) (M := M) (ra := ra) (rl := rl) (rc := rc) (ea := ea) (el := el) (ec := ec) (now := now) (began := began) (puts := puts) V w hb hrl
      rw [hR] at HQ hN hY
      clear hV hR hr hj
      go_wp2_with fail
      refine (HQ.out _ HB.out).mono ?_
      rintro x w1 ⟨rfl,hw1⟩
      rw [hw1]
      clear hw1 w1
      cases R with
      | true =>
        have hE := hY rfl
        clear hN hY
        go_wp2
        exact ⟨⟨k + 1,by omega,by go_num,hE.out⟩,by simp [intOf]; omega⟩
      | false =>
        have hE := hN rfl
        clear hN hY
        go_wp2
        go_ret
        exact ⟨ret_bool hE.out.symm,rfl⟩
    · have hE : Hid ((l.all fun n => decide (0 ≤ n ∧ n < (rl : Int))) = true) := fit_yes (f := fun n => decide (0 ≤ n ∧ n < (rl : Int))) (by rw [HL.out]; omega) hr.out
      clear hr
      go_wp2
      go_ret
      exact ⟨ret_bool (by have h := hE.out; simp only [Bool.decide_and] at h; exact h.symm),rfl⟩
end Go.Proofs.YtahccighonddaaaGreatDoor
namespace Go.Proofs.YtahccighonddaaaGreatDoor
open Go.RowKit
attribute [local go_sem ↓] Go.wp_at_zero Go.wp_at_succ
variable {B : Nat} {ta : Option Addr} {tl tc M : Nat} {ra : Option Addr} {rl rc : Nat} {ea : Option Addr} {el ec : Nat} {now began puts : Int}
theorem itime_no {es : List Int} {k : Nat} (hk : k < es.length) (h : timeB es[k] = false) : es.all timeB = false := by
  rw [List.all_eq_false]
  exact ⟨es[k],List.getElem_mem hk,by simp [h]⟩
theorem itime_yes {es : List Int} {k : Nat} (hk : es.length ≤ k) (h : timeTo es k) : es.all timeB = true := by
  rw [List.all_eq_true]
  intro x hx
  obtain ⟨j,hj,rfl⟩ := List.getElem_of_mem hx
  exact h j (by omega) hj
theorem itimeTo_succ {es : List Int} {k : Nat} (hr : timeTo es k) (hk : k < es.length) (h : timeB es[k] = true) : timeTo es (k + 1) := fun i hi h1 => by
  by_cases hik : i = k
  · subst hik; exact h
  · exact hr i (by omega) h1
set_option maxHeartbeats 2000000 in
theorem impl_numbersRight (es : List Int) (w : World) (hb : w.heap[B]? = some (workO ta tl tc M ra rl rc ea el ec now began puts)) (he : Nums w ea el es) (hel : el ≤ 1048576) :
    Calls Tryz.prog 133 #[.pointer (some ⟨B,0,none⟩)] w fun x w' => x = .returned (.bool (es.all timeB && timeB now)) ∧ w' = w := by
  have cf := fun o => fb_cell hb o
  have HE : Hid (Nums w ea el es) := he
  have HL : Hid (es.length = el) := he.1
  clear hb he
  go_enter Tryz.func133,Tryz.ntmps133
  go_wp2
  go_loop [10] (fun i => ∃ k : Nat,k ≤ el ∧ i = .int .i64 k ∧ Hid (timeTo es k)) (fun i => el - (intOf i).toNat)
  case atStart => exact ⟨0,by omega,rfl,fun j hj => by omega⟩
  case round =>
    obtain ⟨k,hk,rfl,hto⟩ := hrel
    by_cases hlt : k < el
    · obtain ⟨b,off,hea,hkl,g0⟩ := nums_get HE.out (Below.refl _ _) (k := k) hlt
      have hN : timeB es[k] = false → Hid ((es.all timeB && timeB now) = false) := fun h => by show _ = _; rw [itime_no hkl h]; rfl
      have hY : timeB es[k] = true → Hid (timeTo es (k + 1)) := fun h => itimeTo_succ hto.out hkl h
      obtain ⟨V,hV⟩ : ∃ V,es[k] = V := ⟨_,rfl⟩
      rw [hV] at g0 hN hY
      clear hV hkl hto
      subst hea
      go_wp2_with fail
      refine (timpl_time V _).mono ?_
      rintro e w1 ⟨rfl,hw1⟩
      rw [hw1]
      clear hw1 w1
      by_cases h5 : 0 ≤ V ∧ V ≤ 1000000
      · rw [decide_eq_true h5]
        have hE := hY (decide_eq_true h5)
        clear h5 hY hN g0
        go_wp2
        exact ⟨⟨k + 1,by omega,by go_num,hE.out⟩,by simp [intOf]; omega⟩
      · rw [decide_eq_false h5]
        have hE := hN (decide_eq_false h5)
        clear h5 hY hN g0
        go_wp2
        go_ret
        exact ⟨ret_bool hE.out.symm,rfl⟩
    · have hE : Hid ((es.all timeB && timeB now) = timeB now) := show _ = _ by rw [itime_yes (by rw [HL.out]; omega) hto.out]; rfl
      clear hto
      go_wp2_with fail
      refine (timpl_time now _).mono ?_
      rintro e w1 ⟨rfl,hw1⟩
      rw [hw1]
      clear hw1 w1
      obtain ⟨T,hT⟩ : ∃ T,decide (0 ≤ now ∧ now ≤ 1000000) = T := ⟨_,rfl⟩
      have hE2 : Hid ((es.all timeB && timeB now) = T) := show _ = _ by rw [hE.out,← hT]; rfl
      rw [hT]
      clear hE hT
      go_wp2
      go_ret
      exact ⟨ret_bool hE2.out.symm,rfl⟩
set_option maxHeartbeats 4000000 in
theorem impl_owed (k : Int) (ts : List TD) (w : World) (hb : w.heap[B]? = some (workO ta tl tc M ra rl rc ea el ec now began puts)) (hT : Txs w ta tl ts) (htl : tl ≤ 1048576) (hU : ∀ t ∈ ts,upB t.rs = true ∧ upB t.ls = true) :
    Calls Tryz.prog 147 #[.pointer (some ⟨B,0,none⟩),.int .i64 k] w fun x w' => x = .returned (.int .i64 (owedN ts k : Nat)) ∧ Below w.heap.size w w' := by
  have cf := fun o => fb_cell hb o
  have HT : Hid (Txs w ta tl ts) := hT
  have HL : Hid (ts.length = tl) := hT.1
  have HU : Hid (∀ t ∈ ts,upB t.rs = true ∧ upB t.ls = true) := hU
  clear hb hT hU
  go_enter Tryz.func147,Tryz.ntmps147
  go_wp2
  clear cf
  go_loopw [5,13] (fun n i wr => ∃ j x : Nat,j ≤ tl ∧ x ≤ j ∧ i = .int .i64 j ∧ n = .int .i64 x ∧ Hid (x = owedN (ts.take j) k) ∧ Hid (Below w.heap.size w wr)) (fun _ i _ => tl - (intOf i).toNat)
  case atStart => exact ⟨0,0,by omega,by omega,rfl,rfl,show _ = _ by simp [owedN],Below.refl _ _⟩
  case round =>
    obtain ⟨j,x,hj,hx,rfl,rfl,hn,hw⟩ := hrel
    by_cases hlt : j < tl
    · obtain ⟨b,off,t,rfl,e1,g0,g1,g2,g3,g4,g5,hf⟩ := txsG_at keeps_tfit HT.out hw.out hlt
      have HN : Hid (owedN (ts.take (j + 1)) k = x + (if owesB k t then 1 else 0)) := show _ = _ by rw [owedN_succ k e1,← hn.out]
      obtain ⟨hu1,hu2⟩ := HU.out t (List.mem_of_getElem? e1)
      have HH1 : Hid (findNB k t.ls = hasB t.ls k) := find_has hu2 k
      have HH2 : Hid (touchB t.rs k = hasB t.rs k) := find_has hu1 k
      have HF2 : Hid (TFit (wr.alloc t.obj) t) := hf.out.below (fbelow_new _ _)
      have HW2 : Hid (Below w.heap.size w (wr.alloc t.obj)) := below_tr hw.out (fbelow_new _ _)
      have HB2 : Hid ((wr.alloc t.obj).heap[wr.heap.size]? = some t.obj) := heap_alloc_new _ _
      have hrl' := hf.out.rle
      clear e1 hn hu1 hu2 hf hw
      go_wp2_with fail
      refine (impl_leftOn t k _ HF2.out).mono ?_
      rintro e v ⟨rfl,hbv⟩
      rw [HH1.out]
      have HW3 : Hid (Below w.heap.size w v) := below_tr HW2.out hbv
      have HF3 : Hid (TFit v t) := HF2.out.below hbv
      have HB3 : Hid (v.heap[wr.heap.size]? = some t.obj) := (hbv.block _ (fb_lt HB2.out)).trans HB2.out
      clear hbv HW2 HF2 HB2 HH1
      have ct := fun o => fb_cell HB3.out o
      cases h1 : hasB t.ls k with
      | true =>
        have hE : Hid (x + 1 = owedN (ts.take (j + 1)) k) := show _ = _ by rw [HN.out]; simp [owesB,h1]
        clear HN h1
        go_wp2
        exact ⟨⟨j + 1,x + 1,by omega,by omega,by go_num,by go_num,hE.out,HW3.out⟩,by simp [intOf]; omega⟩
      | false =>
        by_cases h2 : t.s = 1
        · have h2' : (t.s == 1) = true := by rw [beq_iff_eq]; exact h2
          have H2 : Hid (t.s = 1) := h2
          clear h2
          go_wp2_with fail
          refine (impl_touchedBy v).mono ?_
          rintro e v4 ⟨rfl,rfl⟩
          have HW4 : Hid (Below w.heap.size w (v.alloc t.obj)) := below_tr HW3.out (fbelow_new _ _)
          have HB4 : Hid ((v.alloc t.obj).heap[v.heap.size]? = some t.obj) := heap_alloc_new _ _
          have HF4 : Hid (TFit (v.alloc t.obj) t) := HF3.out.below (fbelow_new _ _)
          go_wp2_with fail
          refine (impl_touched v.heap.size k t.rs (v.alloc t.obj) HB4.out HF4.out.r.nums hrl').mono ?_
          rintro e v5 ⟨rfl,hv5⟩
          rw [hv5,HH2.out]
          clear hv5 v5 HH2
          cases h3 : hasB t.rs k with
          | true =>
            have hE : Hid (x + 1 = owedN (ts.take (j + 1)) k) := show _ = _ by rw [HN.out]; simp [owesB,H2.out,h3]
            clear HN h3 h1 ct
            go_wp2
            exact ⟨⟨j + 1,x + 1,by omega,by omega,by go_num,by go_num,hE.out,HW4.out⟩,by simp [intOf]; omega⟩
          | false =>
            have hE : Hid (x = owedN (ts.take (j + 1)) k) := show _ = _ by rw [HN.out]; simp [owesB,h1,h3]
            clear HN h3 h1 ct
            go_wp2
            exact ⟨⟨j + 1,x,by omega,by omega,by go_num,by go_num,hE.out,HW4.out⟩,by simp [intOf]; omega⟩
        · have h2' : (t.s == 1) = false := by rw [beq_eq_false_iff_ne]; exact h2
          have hE : Hid (x = owedN (ts.take (j + 1)) k) := show _ = _ by rw [HN.out]; simp [owesB,h1,h2]
          clear HN h1 h2
          go_wp2
          exact ⟨⟨j + 1,x,by omega,by omega,by go_num,by go_num,hE.out,HW3.out⟩,by simp [intOf]; omega⟩
    · have hE : Hid (x = owedN ts k) := by
        have h := hn.out
        rw [List.take_of_length_le (by rw [HL.out]; omega)] at h
        exact h
      go_wp2
      go_ret
      exact ⟨ret_int (by rw [hE.out]),hw.out⟩
end Go.Proofs.YtahccighonddaaaGreatDoor
namespace Go.Proofs.YtahccighonddaaaGreatDoor
open Go.RowKit
theorem blk_lt {u : World} {i : Nat} {o : Obj} (h : u.heap[i]? = some o) : i < u.heap.size := (Array.getElem?_eq_some_iff.1 h).1
theorem blk {u v : World} {i : Nat} {o : Obj} (h : u.heap[i]? = some o) (hb : Below u.heap.size u v) : v.heap[i]? = some o := (hb.block i (blk_lt h)).trans h
theorem blk2 {u v : World} {i : Nat} {o : Obj} {r s : Option Nat} (h : u.heap[i]? = some o) (k : Grown2 u v r s) (hr : some i ≠ r) (hs : some i ≠ s) : v.heap[i]? = some o := (k.2.2.2.2 i (blk_lt h) hr hs).trans h
structure KA (w u : World) (oA oB : Obj) (B : Nat) (a : Option Addr) (n q : Nat) (c : Option Addr) (m p : Nat) (xs ys : List Value) : Prop where
  ba : u.heap[w.heap.size]? = some oA
  blo : Below w.heap.size w u
  bb : u.heap[B]? = some oB
  own : OwnRing u w.heap.size a n q c m p xs ys
  l1 : ∀ j,(Value.slice a n q).ownBlock = some j → j < B
  l2 : ∀ j,(Value.slice c m p).ownBlock = some j → j < B
  lt : w.heap.size < B
theorem KA.below {w u v : World} {oA oB : Obj} {B : Nat} {a : Option Addr} {n q : Nat} {c : Option Addr} {m p : Nat} {xs ys : List Value} (h : KA w u oA oB B a n q c m p xs ys) (hb : Below u.heap.size u v) : KA w v oA oB B a n q c m p xs ys :=
  ⟨blk h.ba hb,below_tr h.blo hb,blk h.bb hb,h.own.below hb,h.l1,h.l2,h.lt⟩
theorem KA.grown {w u v : World} {oA oB : Obj} {B : Nat} {a : Option Addr} {n q : Nat} {c : Option Addr} {m p : Nat} {xs ys : List Value} {r s : Option Nat} (h : KA w u oA oB B a n q c m p xs ys) (k : Grown2 u v r s) (hr : ∀ i,r = some i → B < i) (hs : ∀ i,s = some i → B < i) : KA w v oA oB B a n q c m p xs ys := by
  have hlt := h.lt
  have hn : ∀ i,i ≤ B → some i ≠ r ∧ some i ≠ s := fun i hi => ⟨fun e => by have := hr i e.symm; omega,fun e => by have := hs i e.symm; omega⟩
  refine ⟨blk2 h.ba k (hn _ (by omega)).1 (hn _ (by omega)).2,Grown2.below h.blo h.blo.size k (fun i e => by have := hr i e; omega) (fun i e => by have := hs i e; omega),blk2 h.bb k (hn _ (by omega)).1 (hn _ (by omega)).2,⟨k.kept h.own.1 fun i e => hn i ?_,k.kept h.own.2 fun i e => hn i ?_⟩,h.l1,h.l2,h.lt⟩
  · have := h.l1 i e; omega
  · have := h.l2 i e; omega
structure KR (u : World) (base O : Nat) (o : Obj) (a : Option Addr) (n q : Nat) (c : Option Addr) (m p : Nat) (xs ys : List Value) : Prop where
  bo : u.heap[O]? = some o
  own : OwnRing u (base + 1) a n q c m p xs ys
  l1 : ∀ j,(Value.slice a n q).ownBlock = some j → j < O
  l2 : ∀ j,(Value.slice c m p).ownBlock = some j → j < O
  lt : base < O
theorem KR.below {u v : World} {base O : Nat} {o : Obj} {a : Option Addr} {n q : Nat} {c : Option Addr} {m p : Nat} {xs ys : List Value} (h : KR u base O o a n q c m p xs ys) (hb : Below u.heap.size u v) : KR v base O o a n q c m p xs ys :=
  ⟨blk h.bo hb,h.own.below hb,h.l1,h.l2,h.lt⟩
theorem KR.grown {u v : World} {base O : Nat} {o : Obj} {a : Option Addr} {n q : Nat} {c : Option Addr} {m p : Nat} {xs ys : List Value} {r s : Option Nat} (h : KR u base O o a n q c m p xs ys) (k : Grown2 u v r s) (hr : ∀ i,r = some i → i < base) (hs : ∀ i,s = some i → i < base) : KR v base O o a n q c m p xs ys := by
  have hlt := h.lt
  have hn : ∀ i,base ≤ i → some i ≠ r ∧ some i ≠ s := fun i hi => ⟨fun e => by have := hr i e.symm; omega,fun e => by have := hs i e.symm; omega⟩
  refine ⟨blk2 h.bo k (hn _ (by omega)).1 (hn _ (by omega)).2,⟨k.kept h.own.1 fun i e => hn i ?_,k.kept h.own.2 fun i e => hn i ?_⟩,h.l1,h.l2,h.lt⟩
  · have := (h.own.1.lt i e).1; omega
  · have := (h.own.2.lt i e).1; omega
theorem KR.mark {u v : World} {base O : Nat} {o : Obj} {a : Option Addr} {n q : Nat} {c : Option Addr} {m p : Nat} {xs ys xs' ys' : List Value} (h : KR u base O o a n q c m p xs ys) (ho : OwnRing v (base + 1) a n q c m p xs' ys') (k : Grown2 u v (Value.slice a n q).ownBlock (Value.slice c m p).ownBlock) : KR v base O o a n q c m p xs' ys' :=
  ⟨blk2 h.bo k (fun e => by have := h.l1 _ e.symm; omega) (fun e => by have := h.l2 _ e.symm; omega),ho,h.l1,h.l2,h.lt⟩
theorem KA.mark {w u v : World} {oA oB o : Obj} {B O : Nat} {a a' : Option Addr} {n q n' q' : Nat} {c c' : Option Addr} {m p m' p' base : Nat} {xs ys xs' ys' : List Value} (h : KA w u oA oB B a n q c m p xs ys) (hx : KR u base O o a' n' q' c' m' p' xs' ys') (hB : B ≤ base) (k : Grown2 u v (Value.slice a' n' q').ownBlock (Value.slice c' m' p').ownBlock) : KA w v oA oB B a n q c m p xs ys :=
  h.grown k (fun i e => by have := (hx.own.1.lt i e).1; omega) (fun i e => by have := (hx.own.2.lt i e).1; omega)
end Go.Proofs.YtahccighonddaaaGreatDoor
namespace Go.Proofs.YtahccighonddaaaGreatDoor
open Go.RowKit
attribute [local go_sem ↓] Go.wp_at_zero Go.wp_at_succ
variable {B : Nat} {ta : Option Addr} {tl tc M : Nat} {ra : Option Addr} {rl rc : Nat} {ea : Option Addr} {el ec : Nat} {now began puts : Int}
set_option maxHeartbeats 2000000 in
theorem impl_fits (k : Nat) (r : RD) (N : Nat) (rs : List RD) (w : World) (hb : w.heap[B]? = some (workO ta tl tc M ra rl rc ea el ec now began puts)) (hR : Rngs w ra rl rs) (hk : rs[k]? = some r) (_hrl : rl ≤ 1048576) (hN : N ≤ 1048576) (h1 : 0 ≤ r.first ∧ r.first ≤ 1000000) (h2 : -100 ≤ r.cap ∧ r.cap ≤ 100) :
    Calls Tryz.prog 94 #[.pointer (some ⟨B,0,none⟩),.int .i64 k,.int .i64 N] w fun x w' => x = .returned (.bool (decide ((N : Int) ≤ r.cap - (r.rl : Int)) && decide (r.first + (r.rl : Int) + (N : Int) ≤ 1000000))) ∧ Below w.heap.size w w' := by
  have cf := fun o => fb_cell hb o
  have hkl : k < rl := by rw [← hR.1]; exact (List.getElem?_eq_some_iff.1 hk).1
  obtain ⟨b,off,r',rfl,e1,g0,g1,g2,g3,hf⟩ := rngsG_at keeps_fit hR (Below.refl _ _) hkl
  obtain rfl : r = r' := Option.some.inj (hk.symm.trans e1)
  have hle : r.rl ≤ 1048576 := hf.out.rle
  clear hb hR hk e1 hf
  obtain ⟨cap,first,ra',rl',rc',ca',cl',cc',recs,curs⟩ := r
  simp only at g0 g1 g2 g3 h1 h2 hle
  have hki : (k : Int) < (rl : Int) := by omega
  go_enter Tryz.func94,Tryz.ntmps94
  go_wp2_with fail
  refine (impl_atWork (cap := cap) (first := first) (ra := ra') (rl := rl') (rc := rc') (ca := ca') (cl := cl') (cc := cc') w).mono ?_
  rintro e v ⟨rfl,hbv,hwk,hsz⟩
  have HB1 : Hid (Below w.heap.size w v) := hbv
  have HK1 : Hid (Work v (w.heap.size + 1) cap first ra' rl' rc' ca' cl' cc' 0 0 0) := hwk
  clear hbv hwk hsz cf g0 g1 g2 g3
  go_wp2_with fail
  refine (impl_room (w.heap.size + 1) 0 0 0 v HK1.out h2 hle).mono ?_
  rintro e v2 ⟨rfl,hb2⟩
  have HB2 : Hid (Below w.heap.size w v2) := below_tr HB1.out hb2
  have HK2 : Hid (Work v2 (w.heap.size + 1) cap first ra' rl' rc' ca' cl' cc' 0 0 0) := HK1.out.below hb2
  clear hb2 HB1 HK1
  by_cases hA : (N : Int) ≤ cap - (rl' : Int)
  · have hA' : decide ((N : Int) ≤ cap - (rl' : Int)) = true := decide_eq_true hA
    go_wp2_with fail
    refine (impl_end (w.heap.size + 1) 0 0 0 v2 HK2.out h1 hle).mono ?_
    rintro e v3 ⟨rfl,hb3⟩
    have HB3 : Hid (Below w.heap.size w v3) := below_tr HB2.out hb3
    clear hb3
    have hwr : IntKind.i64.wrap (first + (rl' : Int) + (N : Int)) = first + (rl' : Int) + (N : Int) := twrap_in _ (by omega) (by omega)
    obtain ⟨T,hT⟩ : ∃ T,decide (first + (rl' : Int) + (N : Int) ≤ 1000000) = T := ⟨_,rfl⟩
    have HE : Hid ((decide ((N : Int) ≤ cap - (rl' : Int)) && decide (first + (rl' : Int) + (N : Int) ≤ 1000000)) = T) := show _ = _ by rw [hA',hT]; rfl
    go_wp2
    go_ret
    exact ⟨ret_bool (by first | rfl | exact hT | exact HE.out.symm | (rw [← hT])),HB3.out⟩
  · have hA' : decide ((N : Int) ≤ cap - (rl' : Int)) = false := decide_eq_false hA
    go_wp2
    go_ret
    exact ⟨ret_bool (by first | rfl | (rw [hA']; rfl)),HB2.out⟩
end Go.Proofs.YtahccighonddaaaGreatDoor
namespace Go.Proofs.YtahccighonddaaaGreatDoor
open Go.RowKit
attribute [local go_sem ↓] Go.wp_at_zero Go.wp_at_succ
set_option maxRecDepth 100000 in
set_option maxHeartbeats 4000000 in
theorem spec_lowed (ra : Option Addr) (rl rc : Nat) (ea : Option Addr) (el ec : Nat) (ta : Option Addr) (tl tc : Nat) (now : Int) (k : Int) (ts : List TD) (w : World) (hT : Txs w ta tl ts) (htl : tl ≤ 1048576) :
    Calls Tryz.prog 32 #[fabVal ra rl rc ea el ec ta tl tc now,.int .i64 k] w fun e w' => e = .returned (.int .i64 (owedN ts k : Nat)) ∧ Below w.heap.size w w' := by
  have HT : Hid (Txs w ta tl ts) := hT
  have HL : Hid (ts.length = tl) := hT.1
  clear hT
  have HF : Hid (FB w (w.alloc (fabO ra rl rc ea el ec ta tl tc now)) (fabO ra rl rc ea el ec ta tl tc now)) := fb_new _ _ _
  go_enter Tryz.func32,Tryz.ntmps32
  go_wp2
  go_loopw [5,6] (fun n i wr => ∃ j x : Nat,j ≤ tl ∧ x ≤ j ∧ i = .int .i64 j ∧ n = .int .i64 x ∧ Hid (x = owedN (ts.take j) k) ∧ Hid (FB w wr (fabO ra rl rc ea el ec ta tl tc now))) (fun _ i _ => tl - (intOf i).toNat)
  case atStart => exact ⟨0,0,by omega,by omega,rfl,rfl,show _ = _ by simp [owedN],HF.out⟩
  case round =>
    obtain ⟨j,x,hj,hx,rfl,rfl,hn,hw⟩ := hrel
    clear HF
    have hB := fun o => fb_cell hw.out.box o
    by_cases hlt : j < tl
    · obtain ⟨b,off,t,rfl,e1,g0,g1,g2,g3,g4,g5,hf⟩ := txsG_at keeps_tfit HT.out hw.out.bel hlt
      have hS := owedN_succ k e1
      have HN : Hid (owedN (ts.take (j + 1)) k = x + (if owesB k t then 1 else 0)) := show _ = _ by rw [hS,← hn.out]
      clear hS e1 hn
      have HF2 : Hid (TFit (wr.alloc t.obj) t) := hf.out.below (fbelow_new _ _)
      have HW2 : Hid (FB w (wr.alloc t.obj) (fabO ra rl rc ea el ec (some ⟨b,off,none⟩) tl tc now)) := hw.out.under (fbelow_new _ _)
      have hll := hf.out.lle
      have hrl := hf.out.rle
      clear hf hw
      go_wp2_with fail
      refine (spec_has t.la t.ll t.lc t.ls k _ HF2.out.l.nums hll).mono ?_
      rintro e w1 ⟨rfl,hw1⟩
      rw [hw1]
      clear hw1 w1
      cases h1 : hasB t.ls k with
      | true =>
        have hE : Hid (x + 1 = owedN (ts.take (j + 1)) k) := show _ = _ by rw [HN.out]; simp [owesB,h1]
        clear HN h1
        go_wp2
        exact ⟨⟨j + 1,x + 1,by omega,by omega,by go_num,by go_num,hE.out,HW2.out⟩,by simp [intOf]; omega⟩
      | false =>
        by_cases h2 : t.s = 1
        · have h2' : (t.s == 1) = true := by rw [beq_iff_eq]; exact h2
          go_wp2_with fail
          refine (spec_has t.ra t.rl t.rc t.rs k _ HF2.out.r.nums hrl).mono ?_
          rintro e w1 ⟨rfl,hw1⟩
          rw [hw1]
          clear hw1 w1
          cases h3 : hasB t.rs k with
          | true =>
            have hE : Hid (x + 1 = owedN (ts.take (j + 1)) k) := show _ = _ by rw [HN.out]; simp [owesB,h2,h3]
            clear HN h3 h1 h2
            go_wp2
            exact ⟨⟨j + 1,x + 1,by omega,by omega,by go_num,by go_num,hE.out,HW2.out⟩,by simp [intOf]; omega⟩
          | false =>
            have hE : Hid (x = owedN (ts.take (j + 1)) k) := show _ = _ by rw [HN.out]; simp [owesB,h1,h3]
            clear HN h3 h1 h2
            go_wp2
            exact ⟨⟨j + 1,x,by omega,by omega,by go_num,by go_num,hE.out,HW2.out⟩,by simp [intOf]; omega⟩
        · have h2' : (t.s == 1) = false := by rw [beq_eq_false_iff_ne]; exact h2
          have hE : Hid (x = owedN (ts.take (j + 1)) k) := show _ = _ by rw [HN.out]; simp [owesB,h1,h2]
          clear HN h1 h2
          go_wp2
          exact ⟨⟨j + 1,x,by omega,by omega,by go_num,by go_num,hE.out,HW2.out⟩,by simp [intOf]; omega⟩
    · have hE : Hid (x = owedN ts k) := by
        have h := hn.out
        rw [List.take_of_length_le (by rw [HL.out]; omega)] at h
        exact h
      go_wp2
      go_ret
      exact ⟨ret_int (by rw [hE.out]),hw.out.bel⟩
end Go.Proofs.YtahccighonddaaaGreatDoor
namespace Go.Proofs.YtahccighonddaaaGreatDoor
open Go.RowKit
variable {cap first : Int} {ra ca : Option Addr} {rl rc cl cc : Nat}
structure SCopy (w wr : World) (cap first : Int) (va : Option Addr) (n vc : Nat) (qa : Option Addr) (m qc : Nat) : Prop where
  b0 : wr.heap[w.heap.size]? = some (ringObj cap first va n vc qa m qc)
  b1 : wr.heap[w.heap.size + 1]? = some (ringObj 0 0 none 0 0 none 0 0)
  below : Below w.heap.size w wr
  size : w.heap.size + 2 ≤ wr.heap.size
theorem SCopy.grown {w wr wx : World} {cap first : Int} {va : Option Addr} {n vc : Nat} {qa : Option Addr} {m qc : Nat} {row : Option Nat} (h : SCopy w wr cap first va n vc qa m qc) (hg : wr.grownBy wx row) (hr : ∀ j,row = some j → w.heap.size + 2 ≤ j) : SCopy w wx cap first va n vc qa m qc := by
  have hz := h.size
  exact ⟨(hg.block _ (by omega) (fun e => by have := hr _ e.symm; omega)).trans h.b0,(hg.block _ (by omega) (fun e => by have := hr _ e.symm; omega)).trans h.b1,h.below.grown hg (by omega) (fun j e => by have := hr j e; omega),Nat.le_trans h.size hg.size⟩
theorem SCopy.set2 {w wr : World} {cap first : Int} {va : Option Addr} {n vc : Nat} {qa : Option Addr} {m qc : Nat} (h : SCopy w wr cap first va n vc qa m qc) (va' : Option Addr) (n' vc' : Nat) : SCopy w (wr.setCell ⟨w.heap.size,2,none⟩ (.slice va' n' vc')) cap first va' n' vc' qa m qc :=
  ⟨heap_setCell_same wr w.heap.size 2 _ _ _ h.b0,(Below.heap_setCell wr ⟨w.heap.size,2,none⟩ _ (w.heap.size + 1) (show w.heap.size + 1 ≠ w.heap.size by omega)).trans h.b1,h.below.setCell (p := ⟨w.heap.size,2,none⟩) (Nat.le_refl _) _,by simpa [World.setCell] using h.size⟩
theorem scopy_start (w : World) (cap first : Int) (ra : Option Addr) (rl rc : Nat) (ca : Option Addr) (cl cc : Nat) : SCopy w ((w.alloc (ringObj cap first ra rl rc ca cl cc)).alloc (ringObj 0 0 none 0 0 none 0 0)) cap first ra rl rc ca cl cc := by
  refine ⟨(Below.heap_alloc _ _ _ (by simp)).trans (heap_alloc_new _ _),?_,((Below.refl _ _).alloc (Nat.le_refl _) _).alloc (by simp) _,by simp⟩
  have h := heap_alloc_new (w.alloc (ringObj cap first ra rl rc ca cl cc)) (ringObj 0 0 none 0 0 none 0 0)
  rwa [World.size_alloc] at h
theorem SCopy.alloc {w wr : World} {cap first : Int} {va : Option Addr} {n vc : Nat} {qa : Option Addr} {m qc : Nat} (h : SCopy w wr cap first va n vc qa m qc) (o : Obj) : SCopy w (wr.alloc o) cap first va n vc qa m qc := h.grown (World.grownBy_alloc wr o none) (fun j e => by cases e)
theorem scopy_row (w : World) (o o' : Obj) (t : TypeId) (size : Nat := 1) : (((w.alloc o).alloc o').alloc (.cells #[] t)).ownsRow (w.heap.size + 2) t size (.slice (some ⟨w.heap.size + 1 + 1,0,none⟩) 0 0) 0 [] := by
  have h := World.ownsRow_lit (base := w.heap.size + 2) (e := t) (size := size) ((w.alloc o).alloc o') #[] 0 (by simp) (by unfold maxLen; omega) (by simp)
  simpa using h
theorem scopy_row2 (w : World) (p : Addr) (v : Value) (t : TypeId) (size : Nat := 2) : ((w.setCell p v).alloc (.cells #[] t)).ownsRow w.heap.size t size (.slice (some ⟨w.heap.size,0,none⟩) 0 0) 0 [] := by
  have h := World.ownsRow_lit (base := w.heap.size) (e := t) (size := size) (w.setCell p v) #[] 0 (by simp [World.setCell]) (by unfold maxLen; omega) (by simp)
  simpa [World.setCell] using h
theorem scopy_keep {w w2 w4 : World} {n c : Nat} {a : Option Addr} {xs : List Value} {o : Obj} {v : Value} (h : w2.ownsRow (w.heap.size + 2) 9 1 (.slice a n c) n xs) (hg : ((w2.setCell ⟨w.heap.size,2,none⟩ v).alloc o).grownBy w4 (Value.slice (some ⟨w2.heap.size,0,none⟩) 0 0).ownBlock) : w4.ownsRow (w.heap.size + 2) 9 1 (.slice a n c) n xs := by
  have h1 := (ownsRow_setCell_below h (a := ⟨w.heap.size,2,none⟩) (show w.heap.size < w.heap.size + 2 by omega) v).alloc o
  refine h1.kept hg ?_
  cases hq : (Value.slice a n c).ownBlock with
  | none => exact .inl rfl
  | some g =>
    right
    have := (h.lt g hq).2
    intro e
    simp [Value.ownBlock] at e
    omega
theorem scopy_end {w w4 : World} {cap first : Int} {va : Option Addr} {n vc : Nat} {qa qa' : Option Addr} {m qc qc' base : Nat} {xs ys : List Value} (h : SCopy w w4 cap first va n vc qa m qc) (hy : w4.ownsRow base 96 2 (.slice qa' m qc') m ys) (hx : w4.ownsRow (w.heap.size + 2) 9 1 (.slice va n vc) n xs) (hb : w.heap.size + 2 ≤ base) :
    OwnRing (((((w4.setCell ⟨w.heap.size,3,none⟩ (.slice qa' m qc')).setCell ⟨w.heap.size + 1,0,none⟩ (.int .i64 cap)).setCell ⟨w.heap.size + 1,1,none⟩ (.int .i64 first)).setCell ⟨w.heap.size + 1,2,none⟩ (.slice va n vc)).setCell ⟨w.heap.size + 1,3,none⟩ (.slice qa' m qc')) w.heap.size va n vc qa' m qc' xs ys ∧
    Below w.heap.size w (((((w4.setCell ⟨w.heap.size,3,none⟩ (.slice qa' m qc')).setCell ⟨w.heap.size + 1,0,none⟩ (.int .i64 cap)).setCell ⟨w.heap.size + 1,1,none⟩ (.int .i64 first)).setCell ⟨w.heap.size + 1,2,none⟩ (.slice va n vc)).setCell ⟨w.heap.size + 1,3,none⟩ (.slice qa' m qc')) := by
  have q0 : w.heap.size < w.heap.size + 2 := by omega
  have q1 : w.heap.size + 1 < w.heap.size + 2 := by omega
  have r0 : w.heap.size < base := by omega
  have r1 : w.heap.size + 1 < base := by omega
  have k1 : w.heap.size ≤ w.heap.size + 1 := by omega
  refine ⟨⟨?_,?_⟩,?_⟩
  · exact (ownsRow_setCell_below (ownsRow_setCell_below (ownsRow_setCell_below (ownsRow_setCell_below (ownsRow_setCell_below hx (a := ⟨w.heap.size,3,none⟩) q0 _) (a := ⟨w.heap.size + 1,0,none⟩) q1 _) (a := ⟨w.heap.size + 1,1,none⟩) q1 _) (a := ⟨w.heap.size + 1,2,none⟩) q1 _) (a := ⟨w.heap.size + 1,3,none⟩) q1 _).mono (by omega)
  · exact (ownsRow_setCell_below (ownsRow_setCell_below (ownsRow_setCell_below (ownsRow_setCell_below (ownsRow_setCell_below hy (a := ⟨w.heap.size,3,none⟩) r0 _) (a := ⟨w.heap.size + 1,0,none⟩) r1 _) (a := ⟨w.heap.size + 1,1,none⟩) r1 _) (a := ⟨w.heap.size + 1,2,none⟩) r1 _) (a := ⟨w.heap.size + 1,3,none⟩) r1 _).mono (by omega)
  · exact ((((h.below.setCell (p := ⟨w.heap.size,3,none⟩) (Nat.le_refl _) _).setCell (p := ⟨w.heap.size + 1,0,none⟩) k1 _).setCell (p := ⟨w.heap.size + 1,1,none⟩) k1 _).setCell (p := ⟨w.heap.size + 1,2,none⟩) k1 _).setCell (p := ⟨w.heap.size + 1,3,none⟩) k1 _
set_option maxRecDepth 100000 in
set_option maxHeartbeats 4000000 in
theorem spec_copy (recs : List ByteArray) (curs : List (Int × Int)) (w : World) (hr : StrIn w ra rl rc recs) (hc : CurIn w ca cl cc curs) (hrl : rl ≤ 1048577) (hcl : cl ≤ 1048577) :
    Calls Tryz.prog 81 #[ringV cap first ra rl rc ca cl cc] w fun e w' => ∃ a q c p,e = .returned (ringV cap first a rl q c cl p) ∧ OwnRing w' w.heap.size a rl q c cl p (recs.map Value.string) (curCells curs) ∧ Below w.heap.size w w' := by
  obtain ⟨i0,hi0,hz0,hz1,hz2⟩ := info_parts info_str
  obtain ⟨j0,hj0,hy0,hy1,hy2⟩ := info_parts info_cur
  have HR : Hid (StrIn w ra rl rc recs) := hr
  have HC : Hid (CurIn w ca cl cc curs) := hc
  have HL : Hid (recs.length = rl) := hr.strs.1
  have HLC : Hid (curs.length = cl) := hc.curs.1
  clear hr hc
  go_enter Tryz.func81,Tryz.ntmps81
  have HS0 : Hid (SCopy w (((w.alloc (ringObj cap first ra rl rc ca cl cc)).alloc (ringObj 0 0 none 0 0 none 0 0)).alloc (.cells #[] 9)) cap first ra rl rc ca cl cc) := (scopy_start w cap first ra rl rc ca cl cc).alloc _
  go_wp2_with (first
    | (at_builtin; refine wpList_append_own_any (by rfl) _ _ 43 (by rfl) (w.heap.size + 2) 9 i0 _ 1 16 Tryz.underlying43 hi0 hz0 hz1 hz2 (by rfl) (by omega) (.slice (some ⟨w.heap.size + 1 + 1,0,none⟩) 0 0) 0 [] (by rfl) (scopy_row _ _ _ _) ra rl rc (recs.map Value.string) (by rfl) (by rw [List.length_map,HL.out]; omega) HR.out.nil (strs_news (strs_below HR.out.strs HS0.out.below)) (strCells_one _) (by unfold maxLen; omega) (by omega) (by simp) ?_; intro v1 w2 ho2 hg2; simp only [Nat.zero_add,List.nil_append] at ho2; obtain ⟨a1,c1,rfl⟩ := own_strV ho2; have hs2 := HS0.out.grown hg2 (fun j e => by simp [Value.ownBlock] at e; omega); have g0 := fun o => cell_of_block0 hs2.b0 o; have f0 := fun o => unfrozen_of_block0 hs2.b0 o; have HS3 : Hid (SCopy w ((w2.setCell ⟨w.heap.size,2,none⟩ (.slice a1 rl c1)).alloc (.cells #[] 96)) cap first a1 rl c1 ca cl cc) := (hs2.set2 a1 rl c1).alloc _; have HO2 : Hid (w2.ownsRow (w.heap.size + 2) 9 1 (.slice a1 rl c1) rl (recs.map Value.string)) := ho2; have hz2' := hs2.size; have hz3' : w.heap.size < w2.heap.size := (by omega); clear hs2 hg2 ho2)
    | (at_builtin; refine wpList_append_own_any (by rfl) _ _ 61 (by rfl) w2.heap.size 96 j0 _ 2 16 Tryz.underlying61 hj0 hy0 hy1 hy2 (by rfl) (by omega) (.slice (some ⟨w2.heap.size,0,none⟩) 0 0) 0 [] (by rfl) (scopy_row2 _ _ _ _) ca cl cc (curCells curs) (by rfl) (by rw [curCells_length,HLC.out]) HC.out.nil (curs_news (curs_below HC.out.curs HS3.out.below)) (curCells_one _) (by unfold maxLen; omega) (by omega) (by simp [World.setCell]) ?_; intro v3 w4 ho4 hg4; simp only [Nat.zero_add,List.nil_append] at ho4; obtain ⟨a3,c3,rfl⟩ := own_curV ho4; have hs4 := HS3.out.grown hg4 (fun j e => by simp [Value.ownBlock] at e; omega); have g1 := fun o => cell_of_block0 hs4.b0 o; have f1 := fun o => unfrozen_of_block0 hs4.b0 o; have g2 := fun o => cell_of_block0 hs4.b1 o; have f2 := fun o => unfrozen_of_block0 hs4.b1 o; have HF : Hid _ := scopy_end hs4 ho4 (scopy_keep HO2.out hg4) hz2'; clear hs4 hg4 ho4))
  obtain ⟨hx,hy⟩ := HF.out
  exact bodyPost_ret (v := ringV cap first a1 rl c1 a3 cl c3) (by simp [results,Tryz.results81,go_sem,g2]) rfl ⟨a1,c1,a3,c3,rfl,hx,hy⟩
end Go.Proofs.YtahccighonddaaaGreatDoor
namespace Go.Proofs.YtahccighonddaaaGreatDoor
open Go.RowKit
attribute [local go_sem ↓] Go.wp_at_zero Go.wp_at_succ
variable {B : Nat} {ta : Option Addr} {tl tc M : Nat} {ra : Option Addr} {rl rc : Nat} {ea : Option Addr} {el ec : Nat} {now began puts : Int}
def endSum (rs : List RD) : Int := (rs.map fun r => r.first + (r.rl : Int)).sum
theorem endSum_succ {rs : List RD} {k : Nat} {r : RD} (h : rs[k]? = some r) : endSum (rs.take (k + 1)) = endSum (rs.take k) + (r.first + (r.rl : Int)) := by
  obtain ⟨hj,e⟩ := List.getElem?_eq_some_iff.1 h
  rw [List.take_succ_eq_append_getElem hj,e]
  simp [endSum]
set_option maxHeartbeats 2000000 in
theorem impl_sumOfEnds (rs : List RD) (w : World) (hb : w.heap[B]? = some (workO ta tl tc M ra rl rc ea el ec now began puts)) (hr : Rngs w ra rl rs) (hrl : rl ≤ 4) (hF : ∀ r ∈ rs,0 ≤ r.first ∧ r.first ≤ 1000000) :
    Calls Tryz.prog 136 #[.pointer (some ⟨B,0,none⟩)] w fun x w' => x = .returned (.int .i64 (endSum rs)) ∧ Below w.heap.size w w' := by
  have cf := fun o => fb_cell hb o
  have HR : Hid (Rngs w ra rl rs) := hr
  have HL : Hid (rs.length = rl) := hr.1
  have HF : Hid (∀ r ∈ rs,0 ≤ r.first ∧ r.first ≤ 1000000) := hF
  clear hb hr hF
  go_enter Tryz.func136,Tryz.ntmps136
  go_wp2
  clear cf
  go_loopw [3,11] (fun n i wr => ∃ (k : Nat) (x : Int),k ≤ rl ∧ (0 ≤ x ∧ x ≤ k * 2048576) ∧ i = .int .i64 k ∧ n = .int .i64 x ∧ Hid (x = endSum (rs.take k)) ∧ Hid (Below w.heap.size w wr)) (fun _ i _ => rl - (intOf i).toNat)
  case atStart => exact ⟨0,0,by omega,by omega,rfl,rfl,show _ = _ by simp [endSum],Below.refl _ _⟩
  case round =>
    obtain ⟨k,x,hk,hx,rfl,rfl,hn,hw⟩ := hrel
    by_cases hlt : k < rl
    · obtain ⟨b,off,r,rfl,e1,g0,g1,g2,g3,hf⟩ := rngsG_at keeps_fit HR.out hw.out hlt
      have hle : r.rl ≤ 1048576 := hf.out.rle
      have hfr := HF.out r (List.mem_of_getElem? e1)
      have HN : Hid (x + (r.first + (r.rl : Int)) = endSum (rs.take (k + 1))) := show _ = _ by rw [endSum_succ e1,← hn.out]
      have HW : Hid (Below w.heap.size w (wr.alloc r.obj)) := below_tr hw.out (fbelow_new _ _)
      clear e1 hn hf hw
      have hwr : IntKind.i64.wrap (x + (r.first + (r.rl : Int))) = x + (r.first + (r.rl : Int)) := twrap_in _ (by omega) (by omega)
      go_wp2_with fail
      refine (impl_atWork (cap := r.cap) (first := r.first) (ra := r.ra) (rl := r.rl) (rc := r.rc) (ca := r.ca) (cl := r.cl) (cc := r.cc) _).mono ?_
      rintro e v ⟨rfl,hbv,hwk,hsz⟩
      have HW1 : Hid (Below w.heap.size w v) := below_tr HW.out hbv
      obtain ⟨X,hX⟩ : ∃ X,(wr.alloc r.obj).heap.size + 1 = X := ⟨_,rfl⟩
      have HK : Hid (Work v X r.cap r.first r.ra r.rl r.rc r.ca r.cl r.cc 0 0 0) := hX ▸ hwk
      rw [hX]
      clear hX hbv hwk hsz HW g0 g1 g2 g3
      go_wp2_with fail
      refine (impl_end X 0 0 0 v HK.out hfr hle).mono ?_
      rintro e v2 ⟨rfl,hb2⟩
      have HW2 : Hid (Below w.heap.size w v2) := below_tr HW1.out hb2
      clear hb2 HK HW1
      go_wp2
      exact ⟨⟨k + 1,x + (r.first + (r.rl : Int)),by omega,by omega,by go_num,by go_num,HN.out,HW2.out⟩,by simp [intOf]; omega⟩
    · have hE : Hid (x = endSum rs) := by
        have h := hn.out
        rw [List.take_of_length_le (by rw [HL.out]; omega)] at h
        exact h
      go_wp2
      go_ret
      exact ⟨ret_int (by rw [hE.out]),hw.out⟩
end Go.Proofs.YtahccighonddaaaGreatDoor
