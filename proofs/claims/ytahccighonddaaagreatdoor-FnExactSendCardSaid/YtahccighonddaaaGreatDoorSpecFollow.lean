import Derived.Test.YtahccighonddaaaGreatDoorRingCopy
import Derived.Test.YtahccighonddaaaGreatDoorRingAsk
import Derived.Test.YtahccighonddaaaGreatDoorRingWork6
import Derived.Test.YtahccighonddaaaGreatDoorTxnImpl2
import Derived.Test.YtahccighonddaaaGreatDoorLawRingAsk
import Derived.Test.YtahccighonddaaaGreatDoorRingNew
import Derived.Test.YtahccighonddaaaGreatDoorRecBytes
import Derived.Deep.DeepCutAuto
namespace Go.Proofs.YtahccighonddaaaGreatDoor
open Go.RowKit
variable {cap first : Int} {ra ca : Option Addr} {rl rc cl cc : Nat}
structure RO where
  cap : Int
  first : Int
  recs : List ByteArray
  curs : List (Int × Int)
  k : Int
  t : Int
  d : ByteArray
  c : Int
def RO.ill (c : Int) : RO := ⟨0, 0, [], [], 0, 0, ⟨#[]⟩, c⟩
def RO.ring (cap first : Int) (recs : List ByteArray) (curs : List (Int × Int)) : RO := ⟨cap, first, recs, curs, 0, 0, ⟨#[]⟩, 0⟩
def Answers (w w' : World) (e : Ending) (r : RO) : Prop :=
  ∃ a q b p, e = .returned (ringOutV r.cap r.first a r.recs.length q b r.curs.length p r.k r.t r.d r.c) ∧ OwnRing w' w.heap.size a r.recs.length q b r.curs.length p (r.recs.map Value.string) (curCells r.curs) ∧ Below w.heap.size w w'
abbrev outObj0 : Obj := .cells #[.int .i64 0, .int .i64 0, .slice none 0 0, .slice none 0 0, .int .i64 0, .int .i64 0, .string ⟨#[]⟩, .int .i64 0] 67 (0, 0)
abbrev set8 (w : World) (b : Nat) (v0 v1 v2 v3 v4 v5 v6 v7 : Value) : World := (((((((w.setCell ⟨b, 0, none⟩ v0).setCell ⟨b, 1, none⟩ v1).setCell ⟨b, 2, none⟩ v2).setCell ⟨b, 3, none⟩ v3).setCell ⟨b, 4, none⟩ v4).setCell ⟨b, 5, none⟩ v5).setCell ⟨b, 6, none⟩ v6).setCell ⟨b, 7, none⟩ v7
theorem own_set8 {w : World} {base e size n : Nat} {v : Value} {xs : List Value} (h : w.ownsRow base e size v n xs) (b : Nat) (hb : b < base) (v0 v1 v2 v3 v4 v5 v6 v7 : Value) : (set8 w b v0 v1 v2 v3 v4 v5 v6 v7).ownsRow base e size v n xs :=
  ownsRow_setCell_below (ownsRow_setCell_below (ownsRow_setCell_below (ownsRow_setCell_below (ownsRow_setCell_below (ownsRow_setCell_below (ownsRow_setCell_below (ownsRow_setCell_below h (a := ⟨b, 0, none⟩) hb _) (a := ⟨b, 1, none⟩) hb _) (a := ⟨b, 2, none⟩) hb _) (a := ⟨b, 3, none⟩) hb _) (a := ⟨b, 4, none⟩) hb _) (a := ⟨b, 5, none⟩) hb _) (a := ⟨b, 6, none⟩) hb _) (a := ⟨b, 7, none⟩) hb _
theorem ans_ill {w w1 : World} (c : Int) (hB : Below w.heap.size w w1) (b : Nat) (hb : w.heap.size ≤ b) (v0 v1 v2 v3 v4 v5 v6 v7 : Value) : Answers w (set8 w1 b v0 v1 v2 v3 v4 v5 v6 v7) (.returned (ringIll c)) (RO.ill c) :=
  ⟨none, 0, none, 0, rfl, ⟨World.ownsRow_nil _ _ _ _, World.ownsRow_nil _ _ _ _⟩, below_set8 hB b hb _ _ _ _ _ _ _ _⟩
theorem ans_ring {w w1 : World} {base : Nat} (r : RO) {a : Option Addr} {q : Nat} {c : Option Addr} {p : Nat} (ho : OwnRing w1 base a r.recs.length q c r.curs.length p (r.recs.map Value.string) (curCells r.curs)) (hB : Below w.heap.size w w1) (b : Nat) (hb : w.heap.size ≤ b) (hbb : b < base) (v0 v1 v2 v3 v4 v5 v6 v7 : Value) :
    Answers w (set8 w1 b v0 v1 v2 v3 v4 v5 v6 v7) (.returned (ringOutV r.cap r.first a r.recs.length q c r.curs.length p r.k r.t r.d r.c)) r :=
  ⟨a, q, c, p, rfl, ⟨(own_set8 ho.1 b hbb _ _ _ _ _ _ _ _).mono (by omega), (own_set8 ho.2 b hbb _ _ _ _ _ _ _ _).mono (by omega)⟩, below_set8 hB b hb _ _ _ _ _ _ _ _⟩
structure RFit (w : World) (ra : Option Addr) (rl rc : Nat) (ca : Option Addr) (cl cc : Nat) (recs : List ByteArray) (curs : List (Int × Int)) : Prop where
  str : StrIn w ra rl rc recs
  cur : CurIn w ca cl cc curs
  sz : ∀ s ∈ recs, s.size ≤ 1048576
  rle : rl ≤ 1048576
  cle : cl ≤ 1048576
  rcm : rc ≤ maxLen
  ccm : cc ≤ maxLen
theorem StrIn.below {w w' : World} {a : Option Addr} {n c : Nat} {l : List ByteArray} (h : StrIn w a n c l) (hb : Below w.heap.size w w') : StrIn w' a n c l := ⟨strs_below h.strs hb, fun x e => Nat.lt_of_lt_of_le (h.lt x e) hb.size, h.nil, h.cap, h.off⟩
theorem CurIn.below {w w' : World} {a : Option Addr} {n c : Nat} {l : List (Int × Int)} (h : CurIn w a n c l) (hb : Below w.heap.size w w') : CurIn w' a n c l := ⟨curs_below h.curs hb, fun x e => Nat.lt_of_lt_of_le (h.lt x e) hb.size, h.nil, h.cap, h.off⟩
theorem RFit.below {w w' : World} {recs : List ByteArray} {curs : List (Int × Int)} (h : RFit w ra rl rc ca cl cc recs curs) (hb : Below w.heap.size w w') : RFit w' ra rl rc ca cl cc recs curs := ⟨h.str.below hb, h.cur.below hb, h.sz, h.rle, h.cle, h.rcm, h.ccm⟩
theorem RFit.rin {w : World} {recs : List ByteArray} {curs : List (Int × Int)} (h : RFit w ra rl rc ca cl cc recs curs) : RIn w ra rl rc ca cl cc recs curs := ⟨h.str.strs, h.cur.curs, h.str.lt, h.cur.lt, h.str.nil, h.cur.nil, h.sz, h.rle, h.cle⟩
end Go.Proofs.YtahccighonddaaaGreatDoor
namespace Go.Proofs.YtahccighonddaaaGreatDoor
open Go.RowKit
structure RD where
  cap : Int
  first : Int
  ra : Option Addr
  rl : Nat
  rc : Nat
  ca : Option Addr
  cl : Nat
  cc : Nat
  recs : List ByteArray
  curs : List (Int × Int)
structure TD where
  p : Int
  e : Int
  s : Int
  u : Int
  ra : Option Addr
  rl : Nat
  rc : Nat
  la : Option Addr
  ll : Nat
  lc : Nat
  rs : List Int
  ls : List Int
abbrev RD.v (r : RD) : Value := ringV r.cap r.first r.ra r.rl r.rc r.ca r.cl r.cc
abbrev TD.v (t : TD) : Value := txnV t.p t.e t.s t.u t.ra t.rl t.rc t.la t.ll t.lc
abbrev RD.obj (r : RD) : Obj := ringObj r.cap r.first r.ra r.rl r.rc r.ca r.cl r.cc
abbrev TD.obj (t : TD) : Obj := txnObj t.p t.e t.s t.u t.ra t.rl t.rc t.la t.ll t.lc
abbrev RD.fit (r : RD) (w : World) : Prop := RFit w r.ra r.rl r.rc r.ca r.cl r.cc r.recs r.curs
structure TFit (w : World) (t : TD) : Prop where
  r : NumIn w t.ra t.rl t.rc t.rs
  l : NumIn w t.la t.ll t.lc t.ls
  rle : t.rl ≤ 1048576
  lle : t.ll ≤ 1048576
  pw : -9223372036854775808 ≤ t.p ∧ t.p ≤ 9223372036854775807
  rcm : t.rc ≤ maxLen
  lcm : t.lc ≤ maxLen
theorem TFit.below {w w' : World} {t : TD} (h : TFit w t) (hb : Below w.heap.size w w') : TFit w' t := ⟨h.r.below hb, h.l.below hb, h.rle, h.lle, h.pw, h.rcm, h.lcm⟩
theorem TFit.tin {w : World} {t : TD} (h : TFit w t) : TIn w t.ra t.rl t.la t.ll t.rs t.ls := ⟨h.r.nums, h.l.nums, h.rle, h.lle⟩
def RngsG (Q : World → RD → Prop) (w : World) (a : Option Addr) (len : Nat) (l : List RD) : Prop :=
  l.length = len ∧ ∀ i (h : i < l.length), ∃ b off, a = some ⟨b, off, none⟩ ∧
    w.cell? ⟨b, off + i * 4, none⟩ = some (.int .i64 l[i].cap) ∧ w.cell? ⟨b, off + i * 4 + 1, none⟩ = some (.int .i64 l[i].first) ∧
    w.cell? ⟨b, off + i * 4 + 2, none⟩ = some (.slice l[i].ra l[i].rl l[i].rc) ∧ w.cell? ⟨b, off + i * 4 + 3, none⟩ = some (.slice l[i].ca l[i].cl l[i].cc) ∧ Q w l[i]
def TxsG (Q : World → TD → Prop) (w : World) (a : Option Addr) (len : Nat) (l : List TD) : Prop :=
  l.length = len ∧ ∀ i (h : i < l.length), ∃ b off, a = some ⟨b, off, none⟩ ∧
    w.cell? ⟨b, off + i * 6, none⟩ = some (.int .i64 l[i].p) ∧ w.cell? ⟨b, off + i * 6 + 1, none⟩ = some (.int .i64 l[i].e) ∧
    w.cell? ⟨b, off + i * 6 + 2, none⟩ = some (.int .i64 l[i].s) ∧ w.cell? ⟨b, off + i * 6 + 3, none⟩ = some (.int .i64 l[i].u) ∧
    w.cell? ⟨b, off + i * 6 + 4, none⟩ = some (.slice l[i].ra l[i].rl l[i].rc) ∧ w.cell? ⟨b, off + i * 6 + 5, none⟩ = some (.slice l[i].la l[i].ll l[i].lc) ∧ Q w l[i]
def Keeps {α : Type} (Q : World → α → Prop) : Prop := ∀ w w' x, Below w.heap.size w w' → Q w x → Q w' x
theorem cell_below {w w' : World} {b o : Nat} {v : Value} (h : w.cell? ⟨b, o, none⟩ = some v) (hb : Below w.heap.size w w') : w'.cell? ⟨b, o, none⟩ = some v :=
  (hb.cell (p := ⟨b, o, none⟩) (World.block_lt_of_cell? w ⟨b, o, none⟩ h)).trans h
theorem rngsG_below {Q : World → RD → Prop} (hQ : Keeps Q) {w w' : World} {a : Option Addr} {len : Nat} {l : List RD} (h : RngsG Q w a len l) (hb : Below w.heap.size w w') : RngsG Q w' a len l :=
  ⟨h.1, fun i hi => by
    obtain ⟨b, off, e, h0, h1, h2, h3, hf⟩ := h.2 i hi
    exact ⟨b, off, e, cell_below h0 hb, cell_below h1 hb, cell_below h2 hb, cell_below h3 hb, hQ _ _ _ hb hf⟩⟩
theorem txsG_below {Q : World → TD → Prop} (hQ : Keeps Q) {w w' : World} {a : Option Addr} {len : Nat} {l : List TD} (h : TxsG Q w a len l) (hb : Below w.heap.size w w') : TxsG Q w' a len l :=
  ⟨h.1, fun i hi => by
    obtain ⟨b, off, e, h0, h1, h2, h3, h4, h5, hf⟩ := h.2 i hi
    exact ⟨b, off, e, cell_below h0 hb, cell_below h1 hb, cell_below h2 hb, cell_below h3 hb, cell_below h4 hb, cell_below h5 hb, hQ _ _ _ hb hf⟩⟩
theorem rngsG_at {Q : World → RD → Prop} (hQ : Keeps Q) {w wr : World} {a : Option Addr} {n : Nat} {l : List RD} (h : RngsG Q w a n l) (hb : Below w.heap.size w wr) {k : Nat} (hk : k < n) :
    ∃ b off, ∃ r : RD, a = some ⟨b, off, none⟩ ∧ l[k]? = some r ∧ wr.cell? ⟨b, off + k * 4, none⟩ = some (.int .i64 r.cap) ∧ wr.cell? ⟨b, off + k * 4 + 1, none⟩ = some (.int .i64 r.first) ∧
      wr.cell? ⟨b, off + k * 4 + 2, none⟩ = some (.slice r.ra r.rl r.rc) ∧ wr.cell? ⟨b, off + k * 4 + 3, none⟩ = some (.slice r.ca r.cl r.cc) ∧ Hid (Q wr r) := by
  have hkl : k < l.length := by rw [h.1]; exact hk
  obtain ⟨b, off, e, h0, h1, h2, h3, hf⟩ := (rngsG_below hQ h hb).2 k hkl
  exact ⟨b, off, l[k], e, by simp [hkl], h0, h1, h2, h3, hf⟩
theorem txsG_at {Q : World → TD → Prop} (hQ : Keeps Q) {w wr : World} {a : Option Addr} {n : Nat} {l : List TD} (h : TxsG Q w a n l) (hb : Below w.heap.size w wr) {k : Nat} (hk : k < n) :
    ∃ b off, ∃ t : TD, a = some ⟨b, off, none⟩ ∧ l[k]? = some t ∧ wr.cell? ⟨b, off + k * 6, none⟩ = some (.int .i64 t.p) ∧ wr.cell? ⟨b, off + k * 6 + 1, none⟩ = some (.int .i64 t.e) ∧
      wr.cell? ⟨b, off + k * 6 + 2, none⟩ = some (.int .i64 t.s) ∧ wr.cell? ⟨b, off + k * 6 + 3, none⟩ = some (.int .i64 t.u) ∧
      wr.cell? ⟨b, off + k * 6 + 4, none⟩ = some (.slice t.ra t.rl t.rc) ∧ wr.cell? ⟨b, off + k * 6 + 5, none⟩ = some (.slice t.la t.ll t.lc) ∧ Hid (Q wr t) := by
  have hkl : k < l.length := by rw [h.1]; exact hk
  obtain ⟨b, off, e, h0, h1, h2, h3, h4, h5, hf⟩ := (txsG_below hQ h hb).2 k hkl
  exact ⟨b, off, l[k], e, by simp [hkl], h0, h1, h2, h3, h4, h5, hf⟩
theorem keeps_fit : Keeps (fun w (r : RD) => r.fit w) := fun _ _ _ hb h => h.below hb
theorem keeps_tfit : Keeps (fun w (t : TD) => TFit w t) := fun _ _ _ hb h => h.below hb
abbrev Rngs (w : World) (a : Option Addr) (len : Nat) (l : List RD) : Prop := RngsG (fun w r => r.fit w) w a len l
abbrev Txs (w : World) (a : Option Addr) (len : Nat) (l : List TD) : Prop := TxsG (fun w t => TFit w t) w a len l
theorem rngs_below {w w' : World} {a : Option Addr} {len : Nat} {l : List RD} (h : Rngs w a len l) (hb : Below w.heap.size w w') : Rngs w' a len l := rngsG_below keeps_fit h hb
theorem txs_below {w w' : World} {a : Option Addr} {len : Nat} {l : List TD} (h : Txs w a len l) (hb : Below w.heap.size w w') : Txs w' a len l := txsG_below keeps_tfit h hb
abbrev fabVal (ra : Option Addr) (rl rc : Nat) (ea : Option Addr) (el ec : Nat) (ta : Option Addr) (tl tc : Nat) (now : Int) : Value := .agg #[.slice ra rl rc, .slice ea el ec, .slice ta tl tc, .int .i64 now]
abbrev fabO (ra : Option Addr) (rl rc : Nat) (ea : Option Addr) (el ec : Nat) (ta : Option Addr) (tl tc : Nat) (now : Int) : Obj := .cells #[.slice ra rl rc, .slice ea el ec, .slice ta tl tc, .int .i64 now] 31 (0, 0)
structure FB (w wr : World) (o : Obj) : Prop where
  box : wr.heap[w.heap.size]? = some o
  bel : Below w.heap.size w wr
theorem fb_lt {u : World} {i : Nat} {o : Obj} (h : u.heap[i]? = some o) : i < u.heap.size := (Array.getElem?_eq_some_iff.1 h).1
theorem FB.under {w u v : World} {o : Obj} (h : FB w u o) (hb : Below u.heap.size u v) : FB w v o := ⟨(hb.block _ (fb_lt h.box)).trans h.box, below_tr h.bel hb⟩
theorem fb_new (w : World) (C : Array Value) (t : TypeId) : FB w (w.alloc (.cells C t)) (.cells C t (0, 0)) := ⟨heap_alloc_new _ _, (Below.refl _ _).alloc (Nat.le_refl _) _⟩
theorem fbelow_new (w : World) (o : Obj) : Below w.heap.size w (w.alloc o) := (Below.refl _ _).alloc (Nat.le_refl _) _
theorem fb_cell {w : World} {g : Nat} {C : Array Value} {t : TypeId} (h : w.heap[g]? = some (.cells C t (0, 0))) (o : Nat) : w.cell? ⟨g, o, none⟩ = C[o]? := by
  simp [World.cell?, h]
structure FIn (w : World) (ra : Option Addr) (rl : Nat) (ea : Option Addr) (el : Nat) (ta : Option Addr) (tl : Nat) (rs : List RD) (es : List Int) (ts : List TD) : Prop where
  rs : Rngs w ra rl rs
  es : Nums w ea el es
  ts : Txs w ta tl ts
  rle : rl ≤ 1048576
  ele : el ≤ 1048576
  tle : tl ≤ 1048576
theorem FIn.below {w w' : World} {ra : Option Addr} {rl : Nat} {ea : Option Addr} {el : Nat} {ta : Option Addr} {tl : Nat} {rs : List RD} {es : List Int} {ts : List TD} (h : FIn w ra rl ea el ta tl rs es ts) (hb : Below w.heap.size w w') : FIn w' ra rl ea el ta tl rs es ts :=
  ⟨rngs_below h.rs hb, nums_below h.es hb, txs_below h.ts hb, h.rle, h.ele, h.tle⟩
def owesB (k : Int) (t : TD) : Bool := hasB t.ls k || (t.s == 1 && hasB t.rs k)
def owedN (ts : List TD) (k : Int) : Nat := ts.countP (owesB k)
theorem owedN_le (ts : List TD) (k : Int) : owedN ts k ≤ ts.length := List.countP_le_length
theorem owedN_succ {ts : List TD} {j : Nat} {t : TD} (k : Int) (h : ts[j]? = some t) : owedN (ts.take (j + 1)) k = owedN (ts.take j) k + (if owesB k t then 1 else 0) := by
  obtain ⟨hj, e⟩ := List.getElem?_eq_some_iff.1 h
  rw [List.take_succ_eq_append_getElem hj, e]
  simp [owedN, List.countP_append]
def numFitB (ts : List TD) (k : Int) (n : Int) : Bool := decide (1 ≤ n) && (match ts[(n - 1).toNat]? with | some t => hasB t.rs k | none => false)
def recFitB (ts : List TD) (k : Int) (s : ByteArray) : Bool := numFitB ts k (readRes s).2.1
def ringFitB (ts : List TD) (k : Int) (r : RD) : Bool :=
  ringRightB r.cap r.first r.recs r.curs && decide ((owedN ts k : Int) ≤ r.cap - (r.recs.length : Int)) && decide (r.first + (r.recs.length : Int) + (owedN ts k : Int) ≤ 1000000) && r.recs.all (recFitB ts k)
def epochAt (es : List Int) (p : Int) : Int := es.getD (p - 1).toNat 0
def ringsIn (n : Nat) (rs : List Int) : Bool := rs.all (fun x => decide (x < (n : Int)))
def txnFitB (es : List Int) (n : Nat) (now : Int) (t : TD) : Bool :=
  txnRightB t.p t.e t.s t.u t.rs t.ls && decide (t.e ≤ epochAt es t.p) && ringsIn n t.rs && (t.s != 1 || (t.e == epochAt es t.p && decide (now < t.u)))
def openTo (ts : List TD) (k : Nat) : Prop := ∀ i j, i < j → j < k → ∀ (hi : i < ts.length) (hj : j < ts.length), ts[i].s = 1 → ts[j].s = 1 → ts[i].p ≠ ts[j].p
def openAt (ts : List TD) (k : Nat) (p : Int) : Bool := (ts.take k).any (fun t => t.s == 1 && t.p == p)
def openB (ts : List TD) : Bool := (List.range ts.length).all fun j => match ts[j]? with | some t => !(t.s == 1 && openAt ts j t.p) | none => true
def txnsFitB (es : List Int) (n : Nat) (now : Int) (ts : List TD) : Bool := ts.all (txnFitB es n now) && openB ts
def timeB (n : Int) : Bool := decide (0 ≤ n ∧ n ≤ 1000000)
def fabSizesB (rs : List RD) (es : List Int) (ts : List TD) : Bool := decide (1 ≤ rs.length ∧ rs.length ≤ 4 ∧ es.length = 4 ∧ ts.length ≤ 12)
def ringsFitB (ts : List TD) (rs : List RD) : Bool := decide (∀ k, k < rs.length → ∀ (h : k < rs.length), ringFitB ts (k : Int) rs[k] = true)
def fabRightB (rs : List RD) (es : List Int) (ts : List TD) (now : Int) : Bool :=
  fabSizesB rs es ts && timeB now && es.all timeB && txnsFitB es rs.length now ts && ringsFitB ts rs
end Go.Proofs.YtahccighonddaaaGreatDoor
namespace Go.Proofs.YtahccighonddaaaGreatDoor
open Go.RowKit
theorem blk_lt {u : World} {i : Nat} {o : Obj} (h : u.heap[i]? = some o) : i < u.heap.size := (Array.getElem?_eq_some_iff.1 h).1
theorem blk {u v : World} {i : Nat} {o : Obj} (h : u.heap[i]? = some o) (hb : Below u.heap.size u v) : v.heap[i]? = some o := (hb.block i (blk_lt h)).trans h
theorem blk2 {u v : World} {i : Nat} {o : Obj} {r s : Option Nat} (h : u.heap[i]? = some o) (k : Grown2 u v r s) (hr : some i ≠ r) (hs : some i ≠ s) : v.heap[i]? = some o := (k.2.2.2.2 i (blk_lt h) hr hs).trans h
structure KA (w u : World) (oA oB : Obj) (B : Nat) (a : Option Addr) (n q : Nat) (c : Option Addr) (m p : Nat) (xs ys : List Value) : Prop where
  ba : u.heap[w.heap.size]? = some oA
  blo : Below w.heap.size w u
  bb : u.heap[B]? = some oB
  own : OwnRing u w.heap.size a n q c m p xs ys
  l1 : ∀ j, (Value.slice a n q).ownBlock = some j → j < B
  l2 : ∀ j, (Value.slice c m p).ownBlock = some j → j < B
  lt : w.heap.size < B
theorem KA.below {w u v : World} {oA oB : Obj} {B : Nat} {a : Option Addr} {n q : Nat} {c : Option Addr} {m p : Nat} {xs ys : List Value} (h : KA w u oA oB B a n q c m p xs ys) (hb : Below u.heap.size u v) : KA w v oA oB B a n q c m p xs ys :=
  ⟨blk h.ba hb, below_tr h.blo hb, blk h.bb hb, h.own.below hb, h.l1, h.l2, h.lt⟩
theorem KA.grown {w u v : World} {oA oB : Obj} {B : Nat} {a : Option Addr} {n q : Nat} {c : Option Addr} {m p : Nat} {xs ys : List Value} {r s : Option Nat} (h : KA w u oA oB B a n q c m p xs ys) (k : Grown2 u v r s) (hr : ∀ i, r = some i → B < i) (hs : ∀ i, s = some i → B < i) : KA w v oA oB B a n q c m p xs ys := by
  have hlt := h.lt
  have hn : ∀ i, i ≤ B → some i ≠ r ∧ some i ≠ s := fun i hi => ⟨fun e => by have := hr i e.symm; omega, fun e => by have := hs i e.symm; omega⟩
  refine ⟨blk2 h.ba k (hn _ (by omega)).1 (hn _ (by omega)).2, Grown2.below h.blo h.blo.size k (fun i e => by have := hr i e; omega) (fun i e => by have := hs i e; omega), blk2 h.bb k (hn _ (by omega)).1 (hn _ (by omega)).2, ⟨k.kept h.own.1 fun i e => hn i ?_, k.kept h.own.2 fun i e => hn i ?_⟩, h.l1, h.l2, h.lt⟩
  · have := h.l1 i e; omega
  · have := h.l2 i e; omega
structure KR (u : World) (base O : Nat) (o : Obj) (a : Option Addr) (n q : Nat) (c : Option Addr) (m p : Nat) (xs ys : List Value) : Prop where
  bo : u.heap[O]? = some o
  own : OwnRing u (base + 1) a n q c m p xs ys
  l1 : ∀ j, (Value.slice a n q).ownBlock = some j → j < O
  l2 : ∀ j, (Value.slice c m p).ownBlock = some j → j < O
  lt : base < O
theorem KR.below {u v : World} {base O : Nat} {o : Obj} {a : Option Addr} {n q : Nat} {c : Option Addr} {m p : Nat} {xs ys : List Value} (h : KR u base O o a n q c m p xs ys) (hb : Below u.heap.size u v) : KR v base O o a n q c m p xs ys :=
  ⟨blk h.bo hb, h.own.below hb, h.l1, h.l2, h.lt⟩
theorem KR.grown {u v : World} {base O : Nat} {o : Obj} {a : Option Addr} {n q : Nat} {c : Option Addr} {m p : Nat} {xs ys : List Value} {r s : Option Nat} (h : KR u base O o a n q c m p xs ys) (k : Grown2 u v r s) (hr : ∀ i, r = some i → i < base) (hs : ∀ i, s = some i → i < base) : KR v base O o a n q c m p xs ys := by
  have hlt := h.lt
  have hn : ∀ i, base ≤ i → some i ≠ r ∧ some i ≠ s := fun i hi => ⟨fun e => by have := hr i e.symm; omega, fun e => by have := hs i e.symm; omega⟩
  refine ⟨blk2 h.bo k (hn _ (by omega)).1 (hn _ (by omega)).2, ⟨k.kept h.own.1 fun i e => hn i ?_, k.kept h.own.2 fun i e => hn i ?_⟩, h.l1, h.l2, h.lt⟩
  · have := (h.own.1.lt i e).1; omega
  · have := (h.own.2.lt i e).1; omega
theorem KR.mark {u v : World} {base O : Nat} {o : Obj} {a : Option Addr} {n q : Nat} {c : Option Addr} {m p : Nat} {xs ys xs' ys' : List Value} (h : KR u base O o a n q c m p xs ys) (ho : OwnRing v (base + 1) a n q c m p xs' ys') (k : Grown2 u v (Value.slice a n q).ownBlock (Value.slice c m p).ownBlock) : KR v base O o a n q c m p xs' ys' :=
  ⟨blk2 h.bo k (fun e => by have := h.l1 _ e.symm; omega) (fun e => by have := h.l2 _ e.symm; omega), ho, h.l1, h.l2, h.lt⟩
theorem KA.mark {w u v : World} {oA oB o : Obj} {B O : Nat} {a a' : Option Addr} {n q n' q' : Nat} {c c' : Option Addr} {m p m' p' base : Nat} {xs ys xs' ys' : List Value} (h : KA w u oA oB B a n q c m p xs ys) (hx : KR u base O o a' n' q' c' m' p' xs' ys') (hB : B ≤ base) (k : Grown2 u v (Value.slice a' n' q').ownBlock (Value.slice c' m' p').ownBlock) : KA w v oA oB B a n q c m p xs ys :=
  h.grown k (fun i e => by have := (hx.own.1.lt i e).1; omega) (fun i e => by have := (hx.own.2.lt i e).1; omega)
end Go.Proofs.YtahccighonddaaaGreatDoor
namespace Go.Proofs.YtahccighonddaaaGreatDoor
open Go.RowKit
variable {cap first : Int} {ra ca : Option Addr} {rl rc cl cc : Nat}
structure SCopy (w wr : World) (cap first : Int) (va : Option Addr) (n vc : Nat) (qa : Option Addr) (m qc : Nat) : Prop where
  b0 : wr.heap[w.heap.size]? = some (ringObj cap first va n vc qa m qc)
  b1 : wr.heap[w.heap.size + 1]? = some (ringObj 0 0 none 0 0 none 0 0)
  below : Below w.heap.size w wr
  size : w.heap.size + 2 ≤ wr.heap.size
theorem SCopy.grown {w wr wx : World} {cap first : Int} {va : Option Addr} {n vc : Nat} {qa : Option Addr} {m qc : Nat} {row : Option Nat} (h : SCopy w wr cap first va n vc qa m qc) (hg : wr.grownBy wx row) (hr : ∀ j, row = some j → w.heap.size + 2 ≤ j) : SCopy w wx cap first va n vc qa m qc := by
  have hz := h.size
  exact ⟨(hg.block _ (by omega) (fun e => by have := hr _ e.symm; omega)).trans h.b0, (hg.block _ (by omega) (fun e => by have := hr _ e.symm; omega)).trans h.b1, h.below.grown hg (by omega) (fun j e => by have := hr j e; omega), Nat.le_trans h.size hg.size⟩
theorem SCopy.set2 {w wr : World} {cap first : Int} {va : Option Addr} {n vc : Nat} {qa : Option Addr} {m qc : Nat} (h : SCopy w wr cap first va n vc qa m qc) (va' : Option Addr) (n' vc' : Nat) : SCopy w (wr.setCell ⟨w.heap.size, 2, none⟩ (.slice va' n' vc')) cap first va' n' vc' qa m qc :=
  ⟨heap_setCell_same wr w.heap.size 2 _ _ _ h.b0, (Below.heap_setCell wr ⟨w.heap.size, 2, none⟩ _ (w.heap.size + 1) (show w.heap.size + 1 ≠ w.heap.size by omega)).trans h.b1, h.below.setCell (p := ⟨w.heap.size, 2, none⟩) (Nat.le_refl _) _, by simpa [World.setCell] using h.size⟩
theorem scopy_start (w : World) (cap first : Int) (ra : Option Addr) (rl rc : Nat) (ca : Option Addr) (cl cc : Nat) : SCopy w ((w.alloc (ringObj cap first ra rl rc ca cl cc)).alloc (ringObj 0 0 none 0 0 none 0 0)) cap first ra rl rc ca cl cc := by
  refine ⟨(Below.heap_alloc _ _ _ (by simp)).trans (heap_alloc_new _ _), ?_, ((Below.refl _ _).alloc (Nat.le_refl _) _).alloc (by simp) _, by simp⟩
  have h := heap_alloc_new (w.alloc (ringObj cap first ra rl rc ca cl cc)) (ringObj 0 0 none 0 0 none 0 0)
  rwa [World.size_alloc] at h
theorem SCopy.alloc {w wr : World} {cap first : Int} {va : Option Addr} {n vc : Nat} {qa : Option Addr} {m qc : Nat} (h : SCopy w wr cap first va n vc qa m qc) (o : Obj) : SCopy w (wr.alloc o) cap first va n vc qa m qc := h.grown (World.grownBy_alloc wr o none) (fun j e => by cases e)
theorem scopy_row (w : World) (o o' : Obj) (t : TypeId) (size : Nat := 1) : (((w.alloc o).alloc o').alloc (.cells #[] t)).ownsRow (w.heap.size + 2) t size (.slice (some ⟨w.heap.size + 1 + 1, 0, none⟩) 0 0) 0 [] := by
  have h := World.ownsRow_lit (base := w.heap.size + 2) (e := t) (size := size) ((w.alloc o).alloc o') #[] 0 (by simp) (by unfold maxLen; omega) (by simp)
  simpa using h
theorem scopy_row2 (w : World) (p : Addr) (v : Value) (t : TypeId) (size : Nat := 2) : ((w.setCell p v).alloc (.cells #[] t)).ownsRow w.heap.size t size (.slice (some ⟨w.heap.size, 0, none⟩) 0 0) 0 [] := by
  have h := World.ownsRow_lit (base := w.heap.size) (e := t) (size := size) (w.setCell p v) #[] 0 (by simp [World.setCell]) (by unfold maxLen; omega) (by simp)
  simpa [World.setCell] using h
theorem scopy_keep {w w2 w4 : World} {n c : Nat} {a : Option Addr} {xs : List Value} {o : Obj} {v : Value} (h : w2.ownsRow (w.heap.size + 2) 9 1 (.slice a n c) n xs) (hg : ((w2.setCell ⟨w.heap.size, 2, none⟩ v).alloc o).grownBy w4 (Value.slice (some ⟨w2.heap.size, 0, none⟩) 0 0).ownBlock) : w4.ownsRow (w.heap.size + 2) 9 1 (.slice a n c) n xs := by
  have h1 := (ownsRow_setCell_below h (a := ⟨w.heap.size, 2, none⟩) (show w.heap.size < w.heap.size + 2 by omega) v).alloc o
  refine h1.kept hg ?_
  cases hq : (Value.slice a n c).ownBlock with
  | none => exact .inl rfl
  | some g =>
    right
    have := (h.lt g hq).2
    intro e
    simp [Value.ownBlock] at e
    omega
theorem scopy_end {w w4 : World} {cap first : Int} {va : Option Addr} {n vc : Nat} {qa qa' : Option Addr} {m qc qc' base : Nat} {xs ys : List Value} (h : SCopy w w4 cap first va n vc qa m qc) (hy : w4.ownsRow base 96 2 (.slice qa' m qc') m ys) (hx : w4.ownsRow (w.heap.size + 2) 9 1 (.slice va n vc) n xs) (hb : w.heap.size + 2 ≤ base) :
    OwnRing (((((w4.setCell ⟨w.heap.size, 3, none⟩ (.slice qa' m qc')).setCell ⟨w.heap.size + 1, 0, none⟩ (.int .i64 cap)).setCell ⟨w.heap.size + 1, 1, none⟩ (.int .i64 first)).setCell ⟨w.heap.size + 1, 2, none⟩ (.slice va n vc)).setCell ⟨w.heap.size + 1, 3, none⟩ (.slice qa' m qc')) w.heap.size va n vc qa' m qc' xs ys ∧
    Below w.heap.size w (((((w4.setCell ⟨w.heap.size, 3, none⟩ (.slice qa' m qc')).setCell ⟨w.heap.size + 1, 0, none⟩ (.int .i64 cap)).setCell ⟨w.heap.size + 1, 1, none⟩ (.int .i64 first)).setCell ⟨w.heap.size + 1, 2, none⟩ (.slice va n vc)).setCell ⟨w.heap.size + 1, 3, none⟩ (.slice qa' m qc')) := by
  have q0 : w.heap.size < w.heap.size + 2 := by omega
  have q1 : w.heap.size + 1 < w.heap.size + 2 := by omega
  have r0 : w.heap.size < base := by omega
  have r1 : w.heap.size + 1 < base := by omega
  have k1 : w.heap.size ≤ w.heap.size + 1 := by omega
  refine ⟨⟨?_, ?_⟩, ?_⟩
  · exact (ownsRow_setCell_below (ownsRow_setCell_below (ownsRow_setCell_below (ownsRow_setCell_below (ownsRow_setCell_below hx (a := ⟨w.heap.size, 3, none⟩) q0 _) (a := ⟨w.heap.size + 1, 0, none⟩) q1 _) (a := ⟨w.heap.size + 1, 1, none⟩) q1 _) (a := ⟨w.heap.size + 1, 2, none⟩) q1 _) (a := ⟨w.heap.size + 1, 3, none⟩) q1 _).mono (by omega)
  · exact (ownsRow_setCell_below (ownsRow_setCell_below (ownsRow_setCell_below (ownsRow_setCell_below (ownsRow_setCell_below hy (a := ⟨w.heap.size, 3, none⟩) r0 _) (a := ⟨w.heap.size + 1, 0, none⟩) r1 _) (a := ⟨w.heap.size + 1, 1, none⟩) r1 _) (a := ⟨w.heap.size + 1, 2, none⟩) r1 _) (a := ⟨w.heap.size + 1, 3, none⟩) r1 _).mono (by omega)
  · exact ((((h.below.setCell (p := ⟨w.heap.size, 3, none⟩) (Nat.le_refl _) _).setCell (p := ⟨w.heap.size + 1, 0, none⟩) k1 _).setCell (p := ⟨w.heap.size + 1, 1, none⟩) k1 _).setCell (p := ⟨w.heap.size + 1, 2, none⟩) k1 _).setCell (p := ⟨w.heap.size + 1, 3, none⟩) k1 _
set_option maxRecDepth 100000 in
set_option maxHeartbeats 4000000 in
theorem spec_copy (recs : List ByteArray) (curs : List (Int × Int)) (w : World) (hr : StrIn w ra rl rc recs) (hc : CurIn w ca cl cc curs) (hrl : rl ≤ 1048577) (hcl : cl ≤ 1048577) :
    Calls Tryz.prog 81 #[ringV cap first ra rl rc ca cl cc] w fun e w' => ∃ a q c p, e = .returned (ringV cap first a rl q c cl p) ∧ OwnRing w' w.heap.size a rl q c cl p (recs.map Value.string) (curCells curs) ∧ Below w.heap.size w w' := by
  obtain ⟨i0, hi0, hz0, hz1, hz2⟩ := info_parts info_str
  obtain ⟨j0, hj0, hy0, hy1, hy2⟩ := info_parts info_cur
  have HR : Hid (StrIn w ra rl rc recs) := hr
  have HC : Hid (CurIn w ca cl cc curs) := hc
  have HL : Hid (recs.length = rl) := hr.strs.1
  have HLC : Hid (curs.length = cl) := hc.curs.1
  clear hr hc
  go_enter Tryz.func81, Tryz.ntmps81
  have HS0 : Hid (SCopy w (((w.alloc (ringObj cap first ra rl rc ca cl cc)).alloc (ringObj 0 0 none 0 0 none 0 0)).alloc (.cells #[] 9)) cap first ra rl rc ca cl cc) := (scopy_start w cap first ra rl rc ca cl cc).alloc _
  go_wp2_with (first
    | (at_builtin; refine wpList_append_own_any (by rfl) _ _ 43 (by rfl) (w.heap.size + 2) 9 i0 _ 1 16 Tryz.underlying43 hi0 hz0 hz1 hz2 (by rfl) (by omega) (.slice (some ⟨w.heap.size + 1 + 1, 0, none⟩) 0 0) 0 [] (by rfl) (scopy_row _ _ _ _) ra rl rc (recs.map Value.string) (by rfl) (by rw [List.length_map, HL.out]; omega) HR.out.nil (strs_news (strs_below HR.out.strs HS0.out.below)) (strCells_one _) (by unfold maxLen; omega) (by omega) (by simp) ?_; intro v1 w2 ho2 hg2; simp only [Nat.zero_add, List.nil_append] at ho2; obtain ⟨a1, c1, rfl⟩ := own_strV ho2; have hs2 := HS0.out.grown hg2 (fun j e => by simp [Value.ownBlock] at e; omega); have g0 := fun o => cell_of_block0 hs2.b0 o; have f0 := fun o => unfrozen_of_block0 hs2.b0 o; have HS3 : Hid (SCopy w ((w2.setCell ⟨w.heap.size, 2, none⟩ (.slice a1 rl c1)).alloc (.cells #[] 96)) cap first a1 rl c1 ca cl cc) := (hs2.set2 a1 rl c1).alloc _; have HO2 : Hid (w2.ownsRow (w.heap.size + 2) 9 1 (.slice a1 rl c1) rl (recs.map Value.string)) := ho2; have hz2' := hs2.size; have hz3' : w.heap.size < w2.heap.size := (by omega); clear hs2 hg2 ho2)
    | (at_builtin; refine wpList_append_own_any (by rfl) _ _ 61 (by rfl) w2.heap.size 96 j0 _ 2 16 Tryz.underlying61 hj0 hy0 hy1 hy2 (by rfl) (by omega) (.slice (some ⟨w2.heap.size, 0, none⟩) 0 0) 0 [] (by rfl) (scopy_row2 _ _ _ _) ca cl cc (curCells curs) (by rfl) (by rw [curCells_length, HLC.out]) HC.out.nil (curs_news (curs_below HC.out.curs HS3.out.below)) (curCells_one _) (by unfold maxLen; omega) (by omega) (by simp [World.setCell]) ?_; intro v3 w4 ho4 hg4; simp only [Nat.zero_add, List.nil_append] at ho4; obtain ⟨a3, c3, rfl⟩ := own_curV ho4; have hs4 := HS3.out.grown hg4 (fun j e => by simp [Value.ownBlock] at e; omega); have g1 := fun o => cell_of_block0 hs4.b0 o; have f1 := fun o => unfrozen_of_block0 hs4.b0 o; have g2 := fun o => cell_of_block0 hs4.b1 o; have f2 := fun o => unfrozen_of_block0 hs4.b1 o; have HF : Hid _ := scopy_end hs4 ho4 (scopy_keep HO2.out hg4) hz2'; clear hs4 hg4 ho4))
  obtain ⟨hx, hy⟩ := HF.out
  exact bodyPost_ret (v := ringV cap first a1 rl c1 a3 cl c3) (by simp [results, Tryz.results81, go_sem, g2]) rfl ⟨a1, c1, a3, c3, rfl, hx, hy⟩
end Go.Proofs.YtahccighonddaaaGreatDoor
namespace Go.Proofs.YtahccighonddaaaGreatDoor
open Go.RowKit
variable {cap first : Int} {ra ca : Option Addr} {rl rc cl cc : Nat}
theorem keep_blocks {u u1 u2 : World} {b : Nat} (hb : Below u.heap.size u u1) (hg : u1.grownBy u2 (some b)) (h : u.heap.size ≤ b) : Below u.heap.size u u2 := hb.grown hg hb.size (fun k e => by cases e; exact h)
end Go.Proofs.YtahccighonddaaaGreatDoor
namespace Go.Proofs.YtahccighonddaaaGreatDoor
open Go.RowKit
attribute [local go_sem ↓] Go.wp_at_zero Go.wp_at_succ
variable {cap first : Int} {ra ca : Option Addr} {rl rc cl cc : Nat}
structure Passing (w wr : World) (b : Nat) (cap first : Int) (ra : Option Addr) (rl rc : Nat) (ca : Option Addr) (cl cc : Nat) (f' : Int) (ra' : Option Addr) (rl' rc' : Nat) (L : Int) : Prop where
  b0 : wr.heap[w.heap.size]? = some (ringObj 0 0 none 0 0 none 0 0)
  b1 : wr.heap[w.heap.size + 1]? = some (ringObj cap f' ra' rl' rc' ca cl cc)
  work : Work wr b cap first ra rl rc ca cl cc 1 0 L
  grown : w.grownBy wr (some b)
end Go.Proofs.YtahccighonddaaaGreatDoor
namespace Go.Proofs.YtahccighonddaaaGreatDoor
open Go.RowKit
variable {cap first : Int} {ra ca : Option Addr} {rl rc cl cc : Nat}
end Go.Proofs.YtahccighonddaaaGreatDoor
namespace Go.Proofs.YtahccighonddaaaGreatDoor
open Go.RowKit
variable {cap first : Int} {ra ca : Option Addr} {rl rc cl cc : Nat}
end Go.Proofs.YtahccighonddaaaGreatDoor
namespace Go.Proofs.YtahccighonddaaaGreatDoor
open Go.RowKit
variable {cap first : Int} {ra ca : Option Addr} {rl rc cl cc : Nat}
end Go.Proofs.YtahccighonddaaaGreatDoor
namespace Go.Proofs.YtahccighonddaaaGreatDoor
open Go.RowKit
variable {cap first : Int} {ra ca : Option Addr} {rl rc cl cc : Nat}
def recAt (recs : List ByteArray) (K : Nat) : Int × Int × ByteArray × Nat := readRes (recs.getD K ⟨#[]⟩)
set_option maxRecDepth 100000 in
set_option maxHeartbeats 1000000 in
theorem spec_lat (recs : List ByteArray) (K : Nat) (w : World) (hr : StrIn w ra rl rc recs) (hs : ∀ s ∈ recs, s.size ≤ maxLen) (hK : K < rl) (hrl : rl ≤ 1048576) :
    Calls Tryz.prog 64 #[ringV cap first ra rl rc ca cl cc, .int .i64 (first + (K : Int))] w fun e w' => e = .returned (recV (recAt recs K).1 (recAt recs K).2.1 (recAt recs K).2.2.1) ∧ Below w.heap.size w w' := by
  have hKl : K < recs.length := by rw [hr.strs.1]; exact hK
  have hB0 : Below w.heap.size w ((w.alloc (ringObj cap first ra rl rc ca cl cc)).alloc (.cells #[.int .i64 0, .int .i64 0, .string ⟨#[]⟩] 65)) := ((Below.refl _ _).alloc (Nat.le_refl _) _).alloc (by simp) _
  obtain ⟨b, off, e1, hc⟩ := (strs_below hr.strs hB0).2 K hKl
  have hg : recs.getD K ⟨#[]⟩ = recs[K] := by rw [List.getD_eq_getElem?_getD, List.getElem?_eq_getElem hKl]; rfl
  have HRD : Hid _ := fun w => spec_recRead recs[K] w (hs _ (List.getElem_mem hKl))
  have hra : recAt recs K = readRes recs[K] := by unfold recAt; rw [hg]
  rw [hra]
  clear hg hra
  obtain ⟨V, hV⟩ : ∃ V, recs[K] = V := ⟨_, rfl⟩
  rw [hV] at hc HRD ⊢
  clear hV hKl hs hr
  obtain ⟨R, hR⟩ : ∃ R, readRes V = R := ⟨_, rfl⟩
  rw [hR] at HRD ⊢
  clear hR
  obtain ⟨r1, r2, r3, r4⟩ := R
  have HRE : Hid (∀ w, Calls Tryz.prog 114 #[.string V] w fun e w' => e = .returned (.agg #[.int .i64 r1, .int .i64 r2, .string r3, .int .i64 (r4 : Int)]) ∧ Below w.heap.size w w') := HRD.out
  clear HRD
  subst e1
  have hsub : first + (K : Int) - first = (K : Int) := by omega
  have hfd := field_rec r1 r2 r3 (r4 : Int)
  have hKi : (K : Int) < (rl : Int) := by omega
  have HB0 : Hid _ := hB0
  clear hB0
  go_enter Tryz.func64, Tryz.ntmps64
  go_wp2_with fail
  refine (HRE.out _).mono ?_
  rintro e w1 ⟨rfl, hb1⟩
  have hc1 := fun o => hb1.cell (p := ⟨w.heap.size + 1, o, none⟩) (by simp)
  have hf1 := fun o => hb1.frozen (p := ⟨w.heap.size + 1, o, none⟩) (by simp)
  have HB1 : Hid (Below w.heap.size w w1) := below_tr HB0.out hb1
  clear hb1
  go_wp2
  exact bodyPost_ret (v := recV r1 r2 r3) (by simp [results, Tryz.results64, go_sem, hc1]) rfl ⟨rfl, ((HB1.out.setCell (p := ⟨w.heap.size + 1, 0, none⟩) (Nat.le_succ _) _).setCell (p := ⟨w.heap.size + 1, 1, none⟩) (Nat.le_succ _) _).setCell (p := ⟨w.heap.size + 1, 2, none⟩) (Nat.le_succ _) _⟩
end Go.Proofs.YtahccighonddaaaGreatDoor
namespace Go.Proofs.YtahccighonddaaaGreatDoor
open Go.RowKit
variable {cap first : Int} {ra ca : Option Addr} {rl rc cl cc : Nat}
structure FOw (w u w4 wr : World) (o : Obj) (a : Option Addr) (n q : Nat) (xs : List Value) : Prop where
  bu : Below u.heap.size u wr
  bw : Below w.heap.size w wr
  bo : wr.heap[w4.heap.size]? = some o
  own : wr.ownsRow u.heap.size 9 1 (.slice a n q) n xs
  ltb : ∀ g, (Value.slice a n q).ownBlock = some g → g < w4.heap.size
  size : w4.heap.size + 1 ≤ wr.heap.size
  le : u.heap.size ≤ w4.heap.size
  lw : w.heap.size ≤ w4.heap.size
theorem FOw.grown {w u w4 wr wx : World} {o : Obj} {a : Option Addr} {n q : Nat} {xs : List Value} {row : Option Nat} (h : FOw w u w4 wr o a n q xs) (hg : wr.grownBy wx row) (hr : ∀ j, row = some j → w4.heap.size + 1 ≤ j) : FOw w u w4 wx o a n q xs := by
  have hle := h.le
  have hlw := h.lw
  have hz := h.size
  refine ⟨h.bu.grown hg (by omega) (fun j e' => by have := hr j e'; omega), h.bw.grown hg (by omega) (fun j e' => by have := hr j e'; omega), (hg.block _ (by omega) (fun e' => by have := hr _ e'.symm; omega)).trans h.bo, h.own.kept hg ?_, h.ltb, Nat.le_trans h.size hg.size, h.le, h.lw⟩
  cases hq : (Value.slice a n q).ownBlock with
  | none => exact .inl rfl
  | some g =>
    right
    intro e'
    have h1 := h.ltb g hq
    have h2 := hr g e'.symm
    omega
theorem FOw.alloc {w u w4 wr : World} {o : Obj} {a : Option Addr} {n q : Nat} {xs : List Value} (h : FOw w u w4 wr o a n q xs) (x : Obj) : FOw w u w4 (wr.alloc x) o a n q xs := h.grown (World.grownBy_alloc wr x none) (fun j e' => by cases e')
theorem FOw.fin {w u w4 wr : World} {o : Obj} {a b : Option Addr} {n q m p : Nat} {xs ys : List Value} (h : FOw w u w4 wr o a n q xs) (hy : wr.ownsRow (w4.heap.size + 1) 96 2 (.slice b m p) m ys) (v : Value) :
    OwnRing (wr.setCell ⟨w4.heap.size, 3, none⟩ v) u.heap.size a n q b m p xs ys ∧ Below w.heap.size w (wr.setCell ⟨w4.heap.size, 3, none⟩ v) ∧ Below u.heap.size u (wr.setCell ⟨w4.heap.size, 3, none⟩ v) := by
  have hle := h.le
  have hlw := h.lw
  refine ⟨⟨⟨h.own.1, ?_⟩, ?_⟩, ?_, ?_⟩
  · rcases h.own.2 with hn | ⟨g, cap, cur, e', hb', hg', rest⟩
    · exact .inl hn
    · have hgl : g < w4.heap.size := h.ltb g (by rw [e']; rfl)
      exact .inr ⟨g, cap, cur, e', hb', (Below.heap_setCell wr ⟨w4.heap.size, 3, none⟩ v g (show g ≠ w4.heap.size by omega)).trans hg', rest⟩
  · exact (ownsRow_setCell_below hy (a := ⟨w4.heap.size, 3, none⟩) (show w4.heap.size < w4.heap.size + 1 by omega) _).mono (by omega)
  · exact h.bw.setCell (p := ⟨w4.heap.size, 3, none⟩) hlw _
  · exact h.bu.setCell (p := ⟨w4.heap.size, 3, none⟩) hle _
end Go.Proofs.YtahccighonddaaaGreatDoor
